/-
  What the proofs of this seat's statements share (Rdp, Rdq, Rds, Iss).
-/
import Derived.Defers
import Derived.Recover
import Derived.Laws.Pointers
import Derived.Test.YtfhjcacfchkdpaaGreatDoorU5
import Derived.Test.YtfhjcacfchkdpaaGreatDoorU9
set_option maxRecDepth 100000
set_option maxHeartbeats 32000000
namespace Go.Proofs.YtfhjcacfchkdpaaGreatDoor
open Go.RowKit
def xS(t:Int)(k R:Nat)(s st:ByteArray):Prop:=∀(at_:Nat) (w:World),bT w R s at_ st→at_≤s.size→s.size-at_≤k→
 Calls Tryz.prog 151 #[.pointer (some ⟨R,0,none⟩)] w (GR R s st (bM t k ((aG s).drop at_)) w)
theorem qR{t:Int}{k R:Nat}{s st:ByteArray}(ih:xS t k R s st){at_:Nat}{w:World}(hr:bT w R s at_ st)(hle:at_≤s.size)(hk:s.size-at_≤k)(h:bM t k ((aG s).drop at_)=none):
  Calls Tryz.prog 151 #[.pointer (some ⟨R,0,none⟩)] w (cM R w):=by
 have:=ih at_ w hr hle hk
 rw[h] at this;exact this
def mG(R:Nat)(s st:ByteArray)(x:bD)(rest:List Nat)(w:World)(e:Ending)(w' :World):Prop:=
 ∃p at_,e= .returned (.pointer p)∧at_≤s.size∧(aG s).drop at_=rest∧bT w' R s at_ st∧bO w' w.heap.size x p∧w.grownBy w' (some R)
theorem lO{t:Int}{k R:Nat}{s st:ByteArray}(ih:xS t k R s st){at_:Nat}{w:World}(hr:bT w R s at_ st)(hle:at_≤s.size)(hk:s.size-at_≤k){x:bD}{rest:List Nat}(h:bM t k ((aG s).drop at_)=some (x,rest)):
  Calls Tryz.prog 151 #[.pointer (some ⟨R,0,none⟩)] w (mG R s st x rest w):=by
 have:=ih at_ w hr hle hk
 rw[h] at this;exact this
theorem rX{t:Int}{k at_ a2:Nat}{s:ByteArray}{x:bD}{rest:List Nat}(h:bM t k ((aG s).drop at_)=some (x,rest))(e:(aG s).drop a2=rest)(hle:at_≤s.size)(hle2:a2≤s.size):at_<a2:=by
 have:=tX t k _ _ _ h
 rw[←e,List.length_drop,List.length_drop,bR] at this
 omega
theorem TF{m:Nat}{x y:bD}(hm:m=38∨m=124∨m=62):∃z,zA m x y=some z∧BG z=m∧∀(w:World) (lo b:Nat) (p q:Option Addr),lo≤b→fF w b m p q→bO w lo x p→bO w lo y q→bO w lo z (some ⟨b,0,none⟩):=by
 rcases hm with rfl|rfl|rfl
 ·exact⟨.and_ x y,rfl,rfl,fun w lo b p q h1 h2 h3 h4=>⟨b,p,q,rfl,h1,h2,h3,h4⟩⟩
 ·exact⟨.or_ x y,rfl,rfl,fun w lo b p q h1 h2 h3 h4=>⟨b,p,q,rfl,h1,h2,h3,h4⟩⟩
 ·exact⟨.if_ x y,rfl,rfl,fun w lo b p q h1 h2 h3 h4=>⟨b,p,q,rfl,h1,h2,h3,h4⟩⟩
theorem cP{w:World}{R:Nat}{s st:ByteArray}{at_:Nat}(h:bT w R s at_ st)(o:Obj):bT (w.alloc o) R s at_ st:=
 (((Below.refl _ w).alloc (Nat.le_refl _) o).block R (Array.getElem?_eq_some_iff.1 h).1).trans h
theorem uC(w:World)(sg:Nat)(p q:Option Addr):fF (w.alloc (.cells #[.int .u8 sg,.pointer p,.pointer q] 179)) w.heap.size sg p q:=World.alloc_heap_new w _
theorem mL{w:World}{R:Nat}{s st:ByteArray}{at_:Nat}(h:bT w R s at_ st):R<w.heap.size:=(Array.getElem?_eq_some_iff.1 h).1
theorem R7(t:Int)(k R:Nat)(s st:ByteArray)(hs:s.size≤1048576)(ih:xS t k R s st)(at_:Nat)(w:World)(hr:bT w R s at_ st)(hle:at_≤s.size)(hk:s.size-at_≤k):
  Calls Tryz.prog 170 #[.pointer (some ⟨R,0,none⟩)] w (GR R s st (dI t k ((aG s).drop at_)) w):=by
 have hR:=mL hr
 rcases h1:bM t k ((aG s).drop at_) with _|⟨x,_|⟨m,l2⟩⟩
 ·have HI:=zH (qR ih hr hle hk h1)
  rw[show dI t k ((aG s).drop at_)=none by unfold dI;rw[h1]]
  show Calls _ _ _ _ (cM R w)
  clear h1 hr ih
  go_enter Tryz.func170,Tryz.ntmps170
  go_wp2_with fail
  refine HI.out.mono ?_
  rintro e w1 ⟨v,rfl,hg⟩
  exact⟨rfl,v,rfl,hg⟩
 ·have HI:=zH (lO ih hr hle hk h1)
  rw[show dI t k ((aG s).drop at_)=none by unfold dI;rw[h1]]
  show Calls _ _ _ _ (cM R w)
  clear h1 hr ih
  go_enter Tryz.func170,Tryz.ntmps170
  go_wp2_with fail
  refine HI.out.mono ?_
  rintro e w1 ⟨p,a2,rfl,hle2,hd,hr1,hn,hg⟩
  obtain rfl:=eH hd hle2
  have HT:=zH (j0 R s st ⟨#[38,124,62]⟩ w1 hs hr1)
  have HG:=zH hg
  clear hd hr1 hn hg
  go_wp2_with fail
  refine HT.out.mono ?_
  rintro e w2 ⟨v,rfl,hg2⟩
  exact⟨rfl,v,rfl,HG.out.trans hg2⟩
 ·have HI:=zH (lO ih hr hle hk h1)
  rcases hm:(decide (m=38)||decide (m=124)||decide (m=62)) with _|_
  ·have hno:dI t k ((aG s).drop at_)=none:=by
    unfold dI
    rw[h1]
    simp only
    split
    ·split
     ·rw[DH hm];rfl
     ·rfl
    ·rfl
   rw[hno]
   show Calls _ _ _ _ (cM R w)
   have HM:=zH hm
   clear h1 hr ih hno hm
   go_enter Tryz.func170,Tryz.ntmps170
   go_wp2_with fail
   refine HI.out.mono ?_
   rintro e w1 ⟨p,a2,rfl,hle2,hd,hr1,hn,hg⟩
   obtain⟨hlt2,hm2,_⟩:=aW hd
   have HT:=zH (mK R s st ⟨#[38,124,62]⟩ a2 w1 hs hlt2 hr1 (by rw[gA,hm2];exact HM.out))
   have HG:=zH hg
   clear hd hr1 hn hg hm2
   go_wp2_with fail
   refine HT.out.mono ?_
   rintro e w2 ⟨v,rfl,hg2⟩
   exact⟨rfl,v,rfl,HG.out.trans hg2⟩
  ·have hm3:m=38∨m=124∨m=62:=by simpa [or_assoc] using hm
   have HM:=zH hm
   have HM3:=zH hm3
   have HH1:=zH h1
   have HIH:=zH ih
   rcases h2:bM t k l2 with _|⟨y,_|⟨e0,r⟩⟩
   ·rw[show dI t k ((aG s).drop at_)=none by unfold dI;rw[h1];simp only;rw[h2]]
    show Calls _ _ _ _ (cM R w)
    have HH2:=zH h2
    clear h1 h2 hr ih hm hm3
    go_enter Tryz.func170,Tryz.ntmps170
    go_wp2_with fail
    refine HI.out.mono ?_
    rintro e w1 ⟨p,a2,rfl,hle2,hd,hr1,hn,hg⟩
    have hlt:=rX HH1.out hd hle hle2
    obtain⟨hlt2,hm2,hd2⟩:=aW hd
    have HT:=zH (eO hs hlt2 hm2 hr1 (al:=⟨#[38,124,62]⟩) (by rw[gA,hm2];exact HM.out))
    have HG:=zH hg
    have HD2:=zH hd2
    clear hd hr1 hn hg hm2 hd2
    go_wp2_with fail
    refine HT.out.mono ?_
    rintro e w2 ⟨rfl,hr2,hg2⟩
    have HI2:=zH (qR HIH.out hr2 (by omega) (by omega) (by rw[HD2.out];exact HH2.out))
    have HG2:=zH (HG.out.trans hg2)
    clear hr2 hg2
    go_wp2_with fail
    refine HI2.out.mono ?_
    rintro e w3 ⟨v,rfl,hg3⟩
    exact⟨rfl,v,rfl,HG2.out.trans hg3⟩
   ·rw[show dI t k ((aG s).drop at_)=none by unfold dI;rw[h1];simp only;rw[h2]]
    show Calls _ _ _ _ (cM R w)
    have HH2:=zH h2
    clear h1 h2 hr ih hm hm3
    go_enter Tryz.func170,Tryz.ntmps170
    go_wp2_with fail
    refine HI.out.mono ?_
    rintro e w1 ⟨p,a2,rfl,hle2,hd,hr1,hn,hg⟩
    have hlt:=rX HH1.out hd hle hle2
    obtain⟨hlt2,hm2,hd2⟩:=aW hd
    have HT:=zH (eO hs hlt2 hm2 hr1 (al:=⟨#[38,124,62]⟩) (by rw[gA,hm2];exact HM.out))
    have HG:=zH hg
    have HD2:=zH hd2
    clear hd hr1 hn hg hm2 hd2
    go_wp2_with fail
    refine HT.out.mono ?_
    rintro e w2 ⟨rfl,hr2,hg2⟩
    have HI2:=zH (lO HIH.out hr2 (by omega) (by omega) (by rw[HD2.out];exact HH2.out))
    have HG2:=zH (HG.out.trans hg2)
    clear hr2 hg2
    go_wp2_with fail
    refine HI2.out.mono ?_
    rintro e w3 ⟨q,a3,rfl,hle3,hd3,hr3,hn3,hg3⟩
    obtain rfl:=eH hd3 hle3
    have HT3:=zH (j0 R s st ⟨#[41]⟩ w3 hs hr3)
    have HG3:=zH (HG2.out.trans hg3)
    clear hd3 hr3 hn3 hg3
    go_wp2_with fail
    refine HT3.out.mono ?_
    rintro e w4 ⟨v,rfl,hg4⟩
    exact⟨rfl,v,rfl,HG3.out.trans hg4⟩
   ·by_cases he:e0=41
    ·subst he
     obtain⟨z,hz,hsg,hz2⟩:=TF (x:=x) (y:=y) hm3
     rw[show dI t k ((aG s).drop at_)=some (z,r) by unfold dI;rw[h1];simp only;rw[h2];simp only[if_true];rw[hz];rfl]
     show Calls _ _ _ _ (mG R s st z r w)
     have HH2:=zH h2
     have HZ2:=zH hz2
     clear h1 h2 hr ih hm hm3 hz hsg hz2
     go_enter Tryz.func170,Tryz.ntmps170
     go_wp2_with fail
     refine HI.out.mono ?_
     rintro e w1 ⟨p,a2,rfl,hle2,hd,hr1,hn,hg⟩
     have hlt:=rX HH1.out hd hle hle2
     obtain⟨hlt2,hm2,hd2⟩:=aW hd
     have HT:=zH (eO hs hlt2 hm2 hr1 (al:=⟨#[38,124,62]⟩) (by rw[gA,hm2];exact HM.out))
     have HG:=zH hg
     have HN:=zH hn
     have HD2:=zH hd2
     clear hd hr1 hn hg hm2 hd2
     go_wp2_with fail
     refine HT.out.mono ?_
     rintro e w2 ⟨rfl,hr2,hg2⟩
     have HI2:=zH (lO HIH.out hr2 (by omega) (by omega) (by rw[HD2.out];exact HH2.out))
     have HG2:=zH (HG.out.trans hg2)
     replace HN:=zH (HN.out.grown hg2 hR)
     clear hr2 hg2
     go_wp2_with fail
     refine HI2.out.mono ?_
     rintro e w3 ⟨q,a3,rfl,hle3,hd3,hr3,hn3,hg3⟩
     obtain⟨hlt3,hm3,hd4⟩:=aW hd3
     have HT3:=zH (eO hs hlt3 hm3 hr3 (al:=⟨#[41]⟩) (by rw[oJ,hm3];rfl))
     have HG3:=zH (HG2.out.trans hg3)
     replace HN:=zH (HN.out.grown hg3 hR)
     have HN3:=zH (bO.low HG2.out.size y q hn3)
     have HD4:=zH hd4
     clear hd3 hr3 hn3 hg3 hd4 hm3
     go_wp2_with fail
     refine HT3.out.mono ?_
     rintro e w4 ⟨rfl,hr4,hg4⟩
     have HG4:=zH (HG3.out.trans hg4)
     replace HN:=zH (HN.out.grown hg4 hR)
     replace HN3:=zH (HN3.out.grown hg4 hR)
     have HR4:=zH hr4
     clear hr4 hg4
     go_wp2_with fail
     go_ret
     have hb:Below w4.heap.size w4 (w4.alloc (.cells #[.int .u8 m,.pointer p,.pointer q] 179)):=(Below.refl _ _).alloc (Nat.le_refl _) _
     exact⟨_,a3+1,rfl,by omega,HD4.out,cP HR4.out _,HZ2.out _ _ _ _ _ HG4.out.size (uC _ _ _ _) (HN.out.below hb) (HN3.out.below hb),bB HG4.out _⟩
    ·rw[show dI t k ((aG s).drop at_)=none by unfold dI;rw[h1];simp only;rw[h2];simp only;rw[if_neg he]]
     show Calls _ _ _ _ (cM R w)
     have HH2:=zH h2
     have HEN:=zH he
     clear h1 h2 hr ih hm hm3 he
     go_enter Tryz.func170,Tryz.ntmps170
     go_wp2_with fail
     refine HI.out.mono ?_
     rintro e w1 ⟨p,a2,rfl,hle2,hd,hr1,hn,hg⟩
     have hlt:=rX HH1.out hd hle hle2
     obtain⟨hlt2,hm2,hd2⟩:=aW hd
     have HT:=zH (eO hs hlt2 hm2 hr1 (al:=⟨#[38,124,62]⟩) (by rw[gA,hm2];exact HM.out))
     have HG:=zH hg
     have HD2:=zH hd2
     clear hd hr1 hn hg hm2 hd2
     go_wp2_with fail
     refine HT.out.mono ?_
     rintro e w2 ⟨rfl,hr2,hg2⟩
     have HI2:=zH (lO HIH.out hr2 (by omega) (by omega) (by rw[HD2.out];exact HH2.out))
     have HG2:=zH (HG.out.trans hg2)
     clear hr2 hg2
     go_wp2_with fail
     refine HI2.out.mono ?_
     rintro e w3 ⟨q,a3,rfl,hle3,hd3,hr3,hn3,hg3⟩
     obtain⟨hlt3,hm3,hd4⟩:=aW hd3
     have HT3:=zH (mK R s st ⟨#[41]⟩ a3 w3 hs hlt3 hr3 (by rw[oJ,hm3];exact decide_eq_false HEN.out))
     have HG3:=zH (HG2.out.trans hg3)
     clear hd3 hr3 hn3 hg3 hd4 hm3
     go_wp2_with fail
     refine HT3.out.mono ?_
     rintro e w4 ⟨v,rfl,hg4⟩
     exact⟨rfl,v,rfl,HG3.out.trans hg4⟩
theorem TU{t:Int}{c:Nat}(h:kU t c=true)(h1:c≠33)(h2:c≠63)(h3:c≠40):∃x,(∀k l,bM t (k+1) (c::l)=some (x,l))∧(∀(w:World) (lo b:Nat),lo≤b→fF w b c none none→bO w lo x (some ⟨b,0,none⟩)):=by
 unfold kU at h
 simp only[Bool.or_eq_true,decide_eq_true_eq] at h
 by_cases e1:c=49
 ·subst e1;exact⟨.one,fun _ _=>rfl,fun w lo b hl hn=>⟨b,rfl,hl,hn⟩⟩
 by_cases e2:c=48
 ·subst e2;exact⟨.zero,fun _ _=>rfl,fun w lo b hl hn=>⟨b,rfl,hl,hn⟩⟩
 have h4:97≤c∧(c:Int)-97<t:=by omega
 obtain⟨i,rfl⟩:∃i,c=97+i:=⟨c-97,by omega⟩
 refine⟨.thing i,fun k l=> ?_,fun w lo b hl hn=>⟨b,rfl,hl,hn⟩⟩
 unfold bM
 rw[if_neg e1,if_neg e2,if_pos h4]
 congr 3;omega
theorem wD(t:Int)(k:Nat)(l:List Nat):bM t (k+1) (33::l)=(bM t k l).map fun p=>(.no p.1,p.2):=by
 conv=>lhs;unfold bM
 simp
theorem t8(t:Int)(k:Nat)(l:List Nat):bM t (k+1) (63::l)=(bM t k l).map fun p=>(.ask p.1,p.2):=by
 conv=>lhs;unfold bM
 simp
theorem sF(t:Int)(k:Nat)(l:List Nat):bM t (k+1) (40::l)=dI t k l:=by
 conv=>lhs;unfold bM
 simp only[show¬(40:Nat)=49 by omega,show¬(40:Nat)=48 by omega,show¬(97≤40∧((40:Nat):Int)-97<t) by omega,show¬(40:Nat)=33 by omega,show¬(40:Nat)=63 by omega,if_false,if_true]
 rfl
theorem XK(t:Int)(R:Nat)(s st:ByteArray)(hs:s.size≤1048576)(_ht:t≤26)(hst:VO t st):∀k,xS t k R s st:=by
 intro k
 induction k with
 |zero=>
  intro at_ w hr hle hk
  obtain rfl:at_=s.size:=by omega
  obtain⟨_,_,hc2,_,_⟩:=j2 hr
  have HT:=zH (j0 R s st st w hs hr)
  show Calls _ _ _ _ (cM R w)
  clear hr
  go_enter Tryz.func151,Tryz.ntmps151
  go_wp2_with fail
  refine HT.out.mono ?_
  rintro e w1 ⟨v,rfl,hg⟩
  exact⟨rfl,v,rfl,hg⟩
 |succ k ih=>
  intro at_ w hr hle hk
  obtain⟨_,_,hc2,_,_⟩:=j2 hr
  have hR:=mL hr
  by_cases hlt:at_<s.size
  ·have hd:=mA hlt
   rw[hd]
   obtain⟨c,hc⟩:∃c,s[at_].toNat=c:=⟨_,rfl⟩
   rw[hc]
   have hc255:c<256:=by rw[←hc];exact UInt8.toNat_lt _
   rcases hb:kU t c with _|_
   ·have HT:=zH (mK R s st st at_ w hs hlt hr (by rw[hst,hc,hb]))
    rw[CH t k c _ hb]
    show Calls _ _ _ _ (cM R w)
    clear hr hb ih hst hd
    go_enter Tryz.func151,Tryz.ntmps151
    go_wp2_with fail
    refine HT.out.mono ?_
    rintro e w1 ⟨v,rfl,hg⟩
    exact⟨rfl,v,rfl,hg⟩
   ·have HT:=zH (eO hs hlt hc hr (al:=st) (by rw[hst,hc,hb]))
    have HIH:=zH ih
    by_cases e33:c=33
    ·subst e33
     rw[wD]
     rcases h1:bM t k ((aG s).drop (at_+1)) with _|⟨x,rest⟩
     ·show Calls _ _ _ _ (cM R w)
      have HH:=zH h1
      clear hr hb ih hst hd h1
      go_enter Tryz.func151,Tryz.ntmps151
      go_wp2_with fail
      refine HT.out.mono ?_
      rintro e w1 ⟨rfl,hr1,hg⟩
      have HI:=zH (qR HIH.out hr1 (by omega) (by omega) HH.out)
      have HG:=zH hg
      clear hr1 hg
      go_wp2_with fail
      refine HI.out.mono ?_
      rintro e w2 ⟨v,rfl,hg2⟩
      exact⟨rfl,v,rfl,HG.out.trans hg2⟩
     ·show Calls _ _ _ _ (mG R s st (.no x) rest w)
      have HH:=zH h1
      clear hr hb ih hst hd h1
      go_enter Tryz.func151,Tryz.ntmps151
      go_wp2_with fail
      refine HT.out.mono ?_
      rintro e w1 ⟨rfl,hr1,hg⟩
      have HI:=zH (lO HIH.out hr1 (by omega) (by omega) HH.out)
      have HG:=zH hg
      clear hr1 hg
      go_wp2_with fail
      refine HI.out.mono ?_
      rintro e w2 ⟨p,a2,rfl,hle2,hd2,hr2,hn2,hg2⟩
      have HN2:=zH (bO.low HG.out.size x p hn2)
      have HG2:=zH (HG.out.trans hg2)
      have HR2:=zH hr2
      have HD2:=zH hd2
      clear hd2 hr2 hn2 hg2
      go_wp2_with fail
      go_ret
      have hb:Below w2.heap.size w2 (w2.alloc (.cells #[.int .u8 33,.pointer p,.pointer none] 179)):=(Below.refl _ _).alloc (Nat.le_refl _) _
      exact⟨_,a2,rfl,hle2,HD2.out,cP HR2.out _,⟨_,p,rfl,HG2.out.size,uC _ 33 _ _,HN2.out.below hb⟩,bB HG2.out _⟩
    by_cases e63:c=63
    ·subst e63
     rw[t8]
     rcases h1:bM t k ((aG s).drop (at_+1)) with _|⟨x,rest⟩
     ·show Calls _ _ _ _ (cM R w)
      have HH:=zH h1
      clear hr hb ih hst hd h1
      go_enter Tryz.func151,Tryz.ntmps151
      go_wp2_with fail
      refine HT.out.mono ?_
      rintro e w1 ⟨rfl,hr1,hg⟩
      have HI:=zH (qR HIH.out hr1 (by omega) (by omega) HH.out)
      have HG:=zH hg
      clear hr1 hg
      go_wp2_with fail
      refine HI.out.mono ?_
      rintro e w2 ⟨v,rfl,hg2⟩
      exact⟨rfl,v,rfl,HG.out.trans hg2⟩
     ·show Calls _ _ _ _ (mG R s st (.ask x) rest w)
      have HH:=zH h1
      clear hr hb ih hst hd h1
      go_enter Tryz.func151,Tryz.ntmps151
      go_wp2_with fail
      refine HT.out.mono ?_
      rintro e w1 ⟨rfl,hr1,hg⟩
      have HI:=zH (lO HIH.out hr1 (by omega) (by omega) HH.out)
      have HG:=zH hg
      clear hr1 hg
      go_wp2_with fail
      refine HI.out.mono ?_
      rintro e w2 ⟨p,a2,rfl,hle2,hd2,hr2,hn2,hg2⟩
      have HN2:=zH (bO.low HG.out.size x p hn2)
      have HG2:=zH (HG.out.trans hg2)
      have HR2:=zH hr2
      have HD2:=zH hd2
      clear hd2 hr2 hn2 hg2
      go_wp2_with fail
      go_ret
      have hb:Below w2.heap.size w2 (w2.alloc (.cells #[.int .u8 63,.pointer p,.pointer none] 179)):=(Below.refl _ _).alloc (Nat.le_refl _) _
      exact⟨_,a2,rfl,hle2,HD2.out,cP HR2.out _,⟨_,p,rfl,HG2.out.size,uC _ 63 _ _,HN2.out.below hb⟩,bB HG2.out _⟩
    by_cases e40:c=40
    ·subst e40
     rw[sF]
     rcases h1:dI t k ((aG s).drop (at_+1)) with _|⟨x,rest⟩
     ·show Calls _ _ _ _ (cM R w)
      have HH:=zH h1
      clear hr hb ih hst hd h1
      go_enter Tryz.func151,Tryz.ntmps151
      go_wp2_with fail
      refine HT.out.mono ?_
      rintro e w1 ⟨rfl,hr1,hg⟩
      have hp:=R7 t k R s st hs HIH.out (at_+1) w1 hr1 (by omega) (by omega)
      rw[HH.out] at hp
      have HI:Hid (Calls Tryz.prog 170 #[.pointer (some ⟨R,0,none⟩)] w1 (cM R w1)):=hp
      have HG:=zH hg
      clear hr1 hg hp
      go_wp2_with fail
      refine HI.out.mono ?_
      rintro e w2 ⟨v,rfl,hg2⟩
      exact⟨rfl,v,rfl,HG.out.trans hg2⟩
     ·show Calls _ _ _ _ (mG R s st x rest w)
      have HH:=zH h1
      clear hr hb ih hst hd h1
      go_enter Tryz.func151,Tryz.ntmps151
      go_wp2_with fail
      refine HT.out.mono ?_
      rintro e w1 ⟨rfl,hr1,hg⟩
      have hp:=R7 t k R s st hs HIH.out (at_+1) w1 hr1 (by omega) (by omega)
      rw[HH.out] at hp
      have HI:Hid (Calls Tryz.prog 170 #[.pointer (some ⟨R,0,none⟩)] w1 (mG R s st x rest w1)):=hp
      have HG:=zH hg
      clear hr1 hg hp
      go_wp2_with fail
      refine HI.out.mono ?_
      rintro e w2 ⟨p,a2,rfl,hle2,hd2,hr2,hn2,hg2⟩
      have HN2:=zH (bO.low HG.out.size x p hn2)
      have HG2:=zH (HG.out.trans hg2)
      have HR2:=zH hr2
      have HD2:=zH hd2
      clear hd2 hr2 hn2 hg2
      go_wp2_with fail
      go_ret
      exact⟨p,a2,rfl,hle2,HD2.out,HR2.out,HN2.out,HG2.out⟩
    ·obtain⟨x,hx1,hx2⟩:=TU hb e33 e63 e40
     rw[hx1]
     show Calls _ _ _ _ (mG R s st x _ w)
     have HX:=zH hx2
     have h33:((c:Int)==33)=false:=by rw[beq_eq_false_iff_ne];omega
     have h63:((c:Int)==63)=false:=by rw[beq_eq_false_iff_ne];omega
     have h40:((c:Int)==40)=false:=by rw[beq_eq_false_iff_ne];omega
     clear hr hb ih hst hd hx1 hx2 e33 e63 e40
     go_enter Tryz.func151,Tryz.ntmps151
     go_wp2_with fail
     refine HT.out.mono ?_
     rintro e w1 ⟨rfl,hr1,hg⟩
     have HG:=zH hg
     have HR1:=zH hr1
     clear hr1 hg
     go_wp2_with fail
     go_ret
     exact⟨_,at_+1,rfl,by omega,rfl,cP HR1.out _,HX.out _ _ _ HG.out.size (uC _ c none none),bB HG.out _⟩
  ·obtain rfl:at_=s.size:=by omega
   have HT:=zH (j0 R s st st w hs hr)
   rw[List.drop_eq_nil_of_le (by rw[bR];omega),tW]
   show Calls _ _ _ _ (cM R w)
   clear hr ih hst
   go_enter Tryz.func151,Tryz.ntmps151
   go_wp2_with fail
   refine HT.out.mono ?_
   rintro e w1 ⟨v,rfl,hg⟩
   exact⟨rfl,v,rfl,hg⟩
theorem JD(R:Nat)(s st:ByteArray)(w:World)(_hs:s.size≤1048576)(hr:bT w R s s.size st):
  Calls Tryz.prog 152 #[.pointer (some ⟨R,0,none⟩)] w fun e w' =>e= .returned (.tuple #[])∧∃n,w' =w.drewN n:=by
 obtain⟨hc0,hc1,hc2,hf,hlt⟩:=j2 hr
 have hd:decide ((s.size:Int)<(s.size:Int))=false:=decide_eq_false (by omega)
 clear hr
 go_enter Tryz.func152,Tryz.ntmps152
 go_wp2_with fail
 go_quiet (fail)
 go_wp2_with fail
 go_end0
 exact⟨rfl,_,rfl⟩
theorem FV(R:Nat)(s st:ByteArray)(at_:Nat)(w:World)(_hs:s.size≤1048576)(hat:at_<s.size)(hr:bT w R s at_ st):
  Calls Tryz.prog 152 #[.pointer (some ⟨R,0,none⟩)] w (cM R w):=by
 obtain⟨hc0,hc1,hc2,hf,hlt⟩:=j2 hr
 have hd:decide ((at_:Int)<(s.size:Int))=true:=decide_eq_true (by omega)
 clear hr
 go_enter Tryz.func152,Tryz.ntmps152
 go_wp2_with fail
 go_quiet (fail)
 go_wp2_with fail
 exact⟨rfl,_,rfl,eM (World.grownBy.refl _ _) _⟩
theorem rO(p q:Addr)(v0 v1:Value)(u:TypeId)(pv:Value)(w:World)(h0:w.cell? p=some v0)(h1:w.cell? q=some v1)(f0:w.frozen? p=false)(f1:w.frozen? q=false)(hne:p.block≠q.block):
  CallsD Tryz.prog 150 #[.pointer (some p),.pointer (some q)] (.panicking [{v:= .iface u pv,recovered:=false}]) w fun e u' w' =>
   e= .returned (.tuple #[])∧u' = .panicking [{v:= .iface u pv,recovered:=true}]∧w' =(w.setCell p (.pointer none)).setCell q (.bool false):=by
 refine callsD_of_wpS Tryz.func150 rfl fun c₀ cs hu=> ?_
 apply wpS_seq
 apply wpS_region
 simp[wpOpsS,go_sem,recoverD,hu,Tryz.ntmps150,Exit.thenS]
 refine wpS_cond (t:=true) (by simp[Act.eval,Array.replicate]) ?_
 simp only[if_true]
 apply wpS_region
 have h2:(w.setCell p (.pointer none)).cell? q=some v1:=(World.cell?_setCell_far w p q _ hne).trans h1
 have f2:(w.setCell p (.pointer none)).frozen? q=false:=by rw[World.frozen?_setCell];exact f1
 simp[wpOpsS,go_sem,h0,f0,h2,f2,bodyPostS,results,Tryz.results150]
theorem MH(p q:Addr)(w:World):
  CallsD Tryz.prog 150 #[.pointer (some p),.pointer (some q)] .returning w fun e u' w' =>e= .returned (.tuple #[])∧u' = .returning∧w' =w:=by
 refine callsD_of_wpS Tryz.func150 rfl fun c₀ cs hu=> ?_
 apply wpS_seq
 apply wpS_region
 simp[wpOpsS,go_sem,recoverD,hu,Tryz.ntmps150,Exit.thenS]
 refine wpS_cond (t:=false) (by simp[Act.eval,Array.replicate]) ?_
 simp only[Bool.false_eq_true,if_false]
 refine wpS_of_wp (wp_skip ?_)
 cases c₀
 simp_all [bodyPostS,results,Tryz.results150]
def nothing:Value:= .tuple #[.pointer none,.bool false]
theorem gW{W:World}{B:Nat}{t:TypeId}{v:Value}(h:Boxed W B t v)(u:Value){C:Nat}(hne:C≠B):Boxed (W.setCell ⟨C,0,none⟩ u) B t v:=
 (Below.heap_setCell _ _ _ _ (fun e=>hne e.symm)).trans h
theorem L2(t:Int)(s:ByteArray)(w:World)(h:t<1∨3<t∨60<s.size)(hs:s.size≤9223372036854775807):
  Calls Tryz.prog 138 #[.int .i64 t,.string s] w fun e w' =>e= .returned nothing∧Below w.heap.size w w' :=by
 have x0:=Boxed.new w 156 (.pointer none)
 have x1:=Boxed.new (w.alloc (.cells #[.pointer none] 156)) 4 (.bool false)
 rw[World.size_alloc] at x1
 have hc0:=(x0.alloc (.cells #[.bool false] 4)).cell
 have hc1:=x1.cell
 have HB:Hid (Below w.heap.size w ((w.alloc (.cells #[.pointer none] 156)).alloc (.cells #[.bool false] 4))):=((Below.refl _ _).alloc (Nat.le_refl _) _).alloc (by simp) _
 clear x0 x1
 obtain⟨n,HN⟩:∃n,Hid (eP t=n):=⟨_,rfl⟩
 by_cases h1:t<1∨3<t
 ·have hd:decide (n<0)=true:=decide_eq_true (by rw[←HN.out,mO h1];omega)
  clear h h1
  go_enter_defers Tryz.func138,Tryz.ntmps138
  go_wp2_with (go_at_call 58;refine(eE _ _).mono ?_;rintro e w' ⟨rfl,rfl⟩;rw[HN.out])
  exact⟨nothing,by simp[results,Tryz.results138,go_sem,hc0,hc1,nothing],rfl,HB.out⟩
 ·have hd:decide (n<0)=false:=decide_eq_false (by rw[←HN.out,(lI (t:=t) (by omega) (by omega)).1];omega)
  have hd2:decide ((60:Int)<(s.size:Int))=true:=decide_eq_true (by omega)
  clear h h1
  go_enter_defers Tryz.func138,Tryz.ntmps138
  go_wp2_with (go_at_call 58;refine(eE _ _).mono ?_;rintro e w' ⟨rfl,rfl⟩;rw[HN.out])
  exact⟨nothing,by simp[results,Tryz.results138,go_sem,hc0,hc1,nothing],rfl,HB.out⟩
def kG(n:Nat):ByteArray:=⟨#[48,49,33,63,40]⟩++(⟨#[97,98,99]⟩:ByteArray).extract 0 n
theorem MR(n:Nat)(h1:1≤n)(h3:n≤3):VO n (kG n):=by
 intro c
 have e:∀k:UInt8,c=k↔c.toNat=k.toNat:=fun k=>UInt8.toNat_inj.symm
 have hl:(kG n).data.toList=[48,49,33,63,40]++[97,98,99].take n:=by
  have:n=1∨n=2∨n=3:=by omega
  rcases this with rfl|rfl|rfl<;>rfl
 rw[hl,Bool.eq_iff_iff]
 unfold kU
 have:n=1∨n=2∨n=3:=by omega
 rcases this with rfl|rfl|rfl<;>simp[e]<;>omega
theorem AV{t:Int}{l:List Nat}(h1:1≤t)(h3:t≤3)(hl:l.length≤60)(h:bM t l.length l=none):kT t l=none:=by
 unfold kT;rw[if_pos ⟨h1,h3,hl⟩,h]
theorem A7{t:Int}{l:List Nat}{x:bD}{c:Nat}{r:List Nat}(h1:1≤t)(h3:t≤3)(hl:l.length≤60)(h:bM t l.length l=some (x,c::r)):kT t l=none:=by
 unfold kT;rw[if_pos ⟨h1,h3,hl⟩,h]
theorem zO{t:Int}{l:List Nat}{x:bD}(h1:1≤t)(h3:t≤3)(hl:l.length≤60)(h:bM t l.length l=some (x,[])):kT t l=some x:=by
 unfold kT;rw[if_pos ⟨h1,h3,hl⟩,h]
theorem pC{w W w1:World}{u0 u1:Value}(hB:Below w.heap.size w W)(hg:W.grownBy w1 (some (w.heap.size+1+1))):Below w.heap.size w ((w1.setCell ⟨w.heap.size,0,none⟩ u0).setCell ⟨w.heap.size+1,0,none⟩ u1):=
 ((hB.grown hg hB.size (fun k e=>by cases e;omega)).setCell (p:=⟨w.heap.size,0,none⟩) (Nat.le_refl _) _).setCell (p:=⟨w.heap.size+1,0,none⟩) (by show w.heap.size≤w.heap.size+1;omega) _
theorem CE{w:World}{lo C:Nat}{x:bD}{p:Option Addr}(h:bO w lo x p)(hC:C<lo)(v:Value):bO (w.setCell ⟨C,0,none⟩ v) lo x p:=
 bO.keep (fun b hl _=>Below.heap_setCell _ _ _ b (by show b≠C;omega)) x p h
theorem M3{w:World}{lo:Nat}{x:bD}{p:Option Addr}(h:bO w lo x p)(n:Nat):bO (w.drewN n) lo x p:=
 bO.keep (w:=w) (w' :=w.drewN n) (fun _ _ _=>rfl) x p h
def gQ(t:Int)(s:ByteArray)(w:World)(e:Ending)(w' :World):Prop:=
 match kT t (aG s) with
 |some x=>∃p,e= .returned (.tuple #[.pointer p,.bool true])∧bO w' w.heap.size x p∧Below w.heap.size w w'
 |none=>e= .returned nothing∧Below w.heap.size w w'
theorem gQ.of_none{t:Int}{s:ByteArray}{w:World}{e:Ending}{w' :World}(h:kT t (aG s)=none)(he:e= .returned nothing)(hb:Below w.heap.size w w'):gQ t s w e w' :=by
 unfold gQ;rw[h];exact⟨he,hb⟩
theorem gQ.of_some{t:Int}{s:ByteArray}{w:World}{e:Ending}{w' :World}{x:bD}(h:kT t (aG s)=some x){p:Option Addr}(he:e= .returned (.tuple #[.pointer p,.bool true]))(hn:bO w' w.heap.size x p)(hb:Below w.heap.size w w'):gQ t s w e w' :=by
 unfold gQ;rw[h];exact⟨p,he,hn,hb⟩
theorem OZ(n:Nat)(s:ByteArray)(w:World)(h1:1≤n)(h3:n≤3)(hs:s.size≤60):
  Calls Tryz.prog 138 #[.int .i64 n,.string s] w (gQ n s w):=by
 have hmf:∀(fn:Fn) (first cap:Array Value) (w:World),(Instr.makeFunc fn first cap).run Tryz.prog w= .ok (.func fn first cap) w:=fun _ _ _ _=>rfl
 have hd:decide ((60:Int)<(s.size:Int))=false:=decide_eq_false (by omega)
 obtain⟨m,HN⟩:∃m,Hid (eP n=m):=⟨_,rfl⟩
 have hd2:decide (m<0)=false:=decide_eq_false (by rw[←HN.out,(lI (t:=n) (by omega) (by omega)).1];omega)
 go_enter_defers Tryz.func138,Tryz.ntmps138
 go_wp2_with (go_at_call 58;refine(eE _ _).mono ?_;rintro e w' ⟨rfl,rfl⟩;rw[HN.out])
 obtain⟨W,hW⟩:∃W,((w.alloc (.cells #[.pointer none] 156)).alloc (.cells #[.bool false] 4)).alloc (.cells #[.string s,.int .i64 0,.string (⟨#[48,49,33,63,40]⟩++(⟨#[97,98,99]⟩:ByteArray).extract 0 n)] 174)=W:=⟨_,rfl⟩
 have x0:Boxed W w.heap.size 156 (.pointer none):=by rw[←hW];exact((Boxed.new w 156 (.pointer none)).alloc _).alloc _
 have x1:Boxed W (w.heap.size+1) 4 (.bool false):=by
  rw[←hW];have:=Boxed.new (w.alloc (.cells #[.pointer none] 156)) 4 (.bool false);rw[World.size_alloc] at this;exact this.alloc _
 have hr:bT W (w.heap.size+1+1) s 0 (kG n):=by
  rw[←hW];have:=World.alloc_heap_new ((w.alloc (.cells #[.pointer none] 156)).alloc (.cells #[.bool false] 4)) (.cells #[.string s,.int .i64 0,.string (kG n)] 174);simp only[World.size_alloc] at this;exact this
 have hB:Below w.heap.size w W:=by rw[←hW];exact(((Below.refl _ _).alloc (Nat.le_refl _) _).alloc (by simp) _).alloc (by simp;omega) _
 have hsz:w.heap.size+3≤W.heap.size:=by rw[←hW];simp
 rw[hW]
 clear hW
 have hread:=XK n (w.heap.size+1+1) s (kG n) (by omega) (by omega) (MR n h1 h3) s.size 0 W hr (by omega) (by omega)
 rw[List.drop_zero] at hread
 have HB:=zH hB
 have X0:=zH x0
 have X1:=zH x1
 have hlen:(aG s).length=s.size:=bR s
 have hln:∀o,bM n s.size (aG s)=o→bM n (aG s).length (aG s)=o:=fun o h=>by rw[hlen];exact h
 clear x0 x1 hB hr
 rcases hrd:bM n s.size (aG s) with _|⟨x,rest⟩
 ·rw[hrd] at hread
  have HI:Hid (Calls Tryz.prog 151 #[.pointer (some ⟨w.heap.size+1+1,0,none⟩)] W (cM (w.heap.size+1+1) W)):=hread
  have HE:=zH (AV (t:=n) (by omega) (by omega) (by rw[hlen];exact hs) (hln _ hrd))
  clear hread hrd hln hlen
  refine HI.out.mono ?_
  rintro e w1 ⟨v,rfl,hg⟩
  have y0:Boxed w1 w.heap.size 156 (.pointer none):=X0.out.kept hg (fun e=>by have:=Option.some.inj e;omega)
  have y1:Boxed w1 (w.heap.size+1) 4 (.bool false):=X1.out.kept hg (fun e=>by have:=Option.some.inj e;omega)
  refine leaves_cons (f:=150) (args:= #[.pointer (some ⟨w.heap.size,0,none⟩),.pointer (some ⟨w.heap.size+1,0,none⟩)]) (by simp) (by simp[go_sem]) ?_
  refine(rO ⟨w.heap.size,0,none⟩ ⟨w.heap.size+1,0,none⟩ _ _ _ _ _ y0.cell y1.cell y0.frozen y1.frozen (by simp)).mono ?_
  rintro e u' w'' ⟨rfl,rfl,rfl⟩
  have z0:=(gW (y0.set (.pointer none)) (.bool false) (C:=w.heap.size+1) (by omega)).cell
  have z1:=((gW y1 (.pointer none) (C:=w.heap.size) (by omega)).set (.bool false)).cell
  have HP:=zH (gQ.of_none HE.out rfl (pC (u0:= .pointer none) (u1:= .bool false) HB.out hg))
  simp[Leaves,settle,results,Tryz.results138,go_sem,z0,z1]
  exact HP.out
 ·rw[hrd] at hread
  have HI:Hid (Calls Tryz.prog 151 #[.pointer (some ⟨w.heap.size+1+1,0,none⟩)] W (mG (w.heap.size+1+1) s (kG n) x rest W)):=hread
  have HRD:=zH (hln _ hrd)
  have HLN:=zH hlen
  clear hread hrd hln hlen
  refine HI.out.mono ?_
  rintro e w1 ⟨p,a1,rfl,ha1,hda,hr1,hn1,hg⟩
  have y0:Boxed w1 w.heap.size 156 (.pointer none):=X0.out.kept hg (fun e=>by have:=Option.some.inj e;omega)
  have y1:Boxed w1 (w.heap.size+1) 4 (.bool false):=X1.out.kept hg (fun e=>by have:=Option.some.inj e;omega)
  have hc0:=y0.cell
  have hf0:=y0.frozen
  rcases rest with _|⟨c,r⟩
  ·have HE:=zH (zO (t:=n) (by omega) (by omega) (by rw[HLN.out];exact hs) HRD.out)
   obtain rfl:=eH hda ha1
   have hr2:bT (w1.setCell ⟨w.heap.size,0,none⟩ (.pointer p)) (w.heap.size+1+1) s s.size (kG n):=(Below.heap_setCell _ _ _ _ (by show w.heap.size+1+1≠w.heap.size;omega)).trans hr1
   have HT:=zH (JD _ s (kG n) _ (by omega) hr2)
   have HG:=zH hg
   have Y0:=zH (y0.set (.pointer p))
   have Y1:=zH (gW y1 (.pointer p) (C:=w.heap.size) (by omega))
   have HN:=zH hn1
   clear hda hr1 hn1 hg y0 y1 hr2
   go_wp2_with fail
   refine HT.out.mono ?_
   rintro e w2 ⟨rfl,q,rfl⟩
   clear hc0 hf0
   have hc0:=Y0.out.cell
   have hf0:=Y0.out.frozen
   have hc1:=Y1.out.cell
   have hf1:=Y1.out.frozen
   go_wp2_with fail
   refine leaves_cons (f:=150) (args:= #[.pointer (some ⟨w.heap.size,0,none⟩),.pointer (some ⟨w.heap.size+1,0,none⟩)]) (by simp) (by simp[go_sem]) ?_
   refine(MH ⟨w.heap.size,0,none⟩ ⟨w.heap.size+1,0,none⟩ _).mono ?_
   rintro e u' w'' ⟨rfl,rfl,rfl⟩
   have Y0q:Boxed ((w1.setCell ⟨w.heap.size,0,none⟩ (.pointer p)).drewN q) w.heap.size 156 (.pointer p):=Y0.out
   have Y1q:Boxed ((w1.setCell ⟨w.heap.size,0,none⟩ (.pointer p)).drewN q) (w.heap.size+1) 4 (.bool false):=Y1.out
   have z0:=(gW (Y0q.set (.pointer p)) (.bool true) (C:=w.heap.size+1) (by omega)).cell
   have z1:=((gW Y1q (.pointer p) (C:=w.heap.size) (by omega)).set (.bool true)).cell
   have hsn:bO ((((w1.setCell ⟨w.heap.size,0,none⟩ (.pointer p)).drewN q).setCell ⟨w.heap.size,0,none⟩ (.pointer p)).setCell ⟨w.heap.size+1,0,none⟩ (.bool true)) w.heap.size x p:=
    bO.low (lo:=W.heap.size) (by omega) x p (CE (CE (M3 (CE HN.out (by omega) _) _) (by omega) _) (by omega) _)
   have hbl:Below w.heap.size w ((((w1.setCell ⟨w.heap.size,0,none⟩ (.pointer p)).drewN q).setCell ⟨w.heap.size,0,none⟩ (.pointer p)).setCell ⟨w.heap.size+1,0,none⟩ (.bool true)):=
    ((aE ((HB.out.grown HG.out HB.out.size (fun k e=>by have:=Option.some.inj e;omega)).setCell (p:=⟨w.heap.size,0,none⟩) (Nat.le_refl _) _) q).setCell (p:=⟨w.heap.size,0,none⟩) (Nat.le_refl _) _).setCell (p:=⟨w.heap.size+1,0,none⟩) (by show w.heap.size≤w.heap.size+1;omega) _
   have HP:=zH (gQ.of_some HE.out rfl hsn hbl)
   simp[Leaves,settle,results,Tryz.results138,go_sem,z0,z1]
   exact HP.out
  ·have HE:=zH (A7 (t:=n) (by omega) (by omega) (by rw[HLN.out];exact hs) HRD.out)
   obtain⟨hlt,_,_⟩:=aW hda
   have hr2:bT (w1.setCell ⟨w.heap.size,0,none⟩ (.pointer p)) (w.heap.size+1+1) s a1 (kG n):=(Below.heap_setCell _ _ _ _ (by show w.heap.size+1+1≠w.heap.size;omega)).trans hr1
   have HT:=zH (FV _ s (kG n) a1 _ (by omega) hlt hr2)
   have HG:=zH hg
   have Y0:=zH (y0.set (.pointer p))
   have Y1:=zH (gW y1 (.pointer p) (C:=w.heap.size) (by omega))
   clear hda hr1 hn1 hg y0 y1 hr2
   go_wp2_with fail
   refine HT.out.mono ?_
   rintro e w2 ⟨v,rfl,hg2⟩
   have y0:Boxed w2 w.heap.size 156 (.pointer p):=Boxed.kept Y0.out hg2 (fun e=>by have:=Option.some.inj e;omega)
   have y1:Boxed w2 (w.heap.size+1) 4 (.bool false):=Boxed.kept Y1.out hg2 (fun e=>by have:=Option.some.inj e;omega)
   refine leaves_cons (f:=150) (args:= #[.pointer (some ⟨w.heap.size,0,none⟩),.pointer (some ⟨w.heap.size+1,0,none⟩)]) (by simp) (by simp[go_sem]) ?_
   refine(rO ⟨w.heap.size,0,none⟩ ⟨w.heap.size+1,0,none⟩ _ _ _ _ _ y0.cell y1.cell y0.frozen y1.frozen (by simp)).mono ?_
   rintro e u' w'' ⟨rfl,rfl,rfl⟩
   have z0:=(gW (y0.set (.pointer none)) (.bool false) (C:=w.heap.size+1) (by omega)).cell
   have z1:=((gW y1 (.pointer none) (C:=w.heap.size) (by omega)).set (.bool false)).cell
   have hb1:Below w.heap.size w (w1.setCell ⟨w.heap.size,0,none⟩ (.pointer p)):=(HB.out.grown HG.out HB.out.size (fun k e=>by have:=Option.some.inj e;omega)).setCell (p:=⟨w.heap.size,0,none⟩) (Nat.le_refl _) _
   have HP:=zH (gQ.of_none HE.out rfl (pC (u0:= .pointer none) (u1:= .bool false) hb1 hg2))
   simp[Leaves,settle,results,Tryz.results138,go_sem,z0,z1]
   exact HP.out
theorem OC(t:Int)(s:ByteArray)(w:World)(hs:s.size≤9223372036854775807):Calls Tryz.prog 138 #[.int .i64 t,.string s] w (gQ t s w):=by
 by_cases h:t<1∨3<t∨60<s.size
 ·refine(L2 t s w h hs).mono ?_
  rintro e w' ⟨he,hb⟩
  exact gQ.of_none (by unfold kT;rw[if_neg (by rw[bR];omega)]) he hb
 ·obtain⟨n,rfl⟩:∃n:Nat,t=n:=⟨t.toNat,by omega⟩
  exact OZ n s w (by omega) (by omega) (by omega)
def hI(l:List Int)(w:World)(e:Ending)(w' :World):Prop:=∃v,e= .returned v∧aS w' w.heap.size v l∧Below w.heap.size w w'
theorem eK{w W:World}{b sg:Nat}{q r:Option Addr}(h:fF w b sg q r)(hb:Below w.heap.size w W):W.cell? ⟨b,1,none⟩=some (.pointer q)∧W.cell? ⟨b,2,none⟩=some (.pointer r):=by
 have:=iE ((hb.block b (Array.getElem?_eq_some_iff.1 h).1).trans h)
 exact⟨this.2.1,this.2.2.1⟩
theorem SQ(t:Int)(b:Nat)(q r:Option Addr)(w:World)(a:List Int)(ha:a.length≤70)(hn:fF w b 33 q r)
  (hk:∀W,Below w.heap.size w W→Calls Tryz.prog 141 #[.int .i64 t,.pointer q] W (hI a W)):
  Calls Tryz.prog 141 #[.int .i64 t,.pointer (some ⟨b,0,none⟩)] w (hI (iW t a) w):=by
 obtain⟨hc0,hc1,hc2,hlt⟩:=iE hn
 have HK:=zH hk
 have hc0:w.cell? ⟨b,0,none⟩=some (.int .u8 33):=hc0
 clear hk hn
 go_enter Tryz.func141,Tryz.ntmps141
 go_wp2_with fail
 refine(HK.out _ (Below.refl _ _)).mono ?_
 rintro e w1 ⟨v,rfl,ho,hb⟩
 obtain⟨A1,c1,rfl,_,_,_,_⟩:=ho.form
 have HR:=zH (aS.row ho (by omega))
 have HB:=zH hb
 clear ho hb
 go_wp2_with fail
 refine(C5 t _ _ _ a _ HR.out).mono ?_
 rintro e w2 ⟨v,rfl,ho,hb⟩
 have HO:=zH (ho.base HB.out.size)
 have HB2:=zH (aA HB.out hb)
 clear ho hb
 go_wp2_with fail
 go_ret
 exact⟨_,rfl,HO.out,HB2.out⟩
theorem IA(t:Int)(b:Nat)(q r:Option Addr)(w:World)(a:List Int)(ha:a.length≤70)(hn:fF w b 63 q r)
  (hk:∀W,Below w.heap.size w W→Calls Tryz.prog 141 #[.int .i64 t,.pointer q] W (hI a W)):
  Calls Tryz.prog 141 #[.int .i64 t,.pointer (some ⟨b,0,none⟩)] w (hI (dQ t a) w):=by
 obtain⟨hc0,hc1,hc2,hlt⟩:=iE hn
 have HK:=zH hk
 have hc0:w.cell? ⟨b,0,none⟩=some (.int .u8 63):=hc0
 clear hk hn
 go_enter Tryz.func141,Tryz.ntmps141
 go_wp2_with fail
 refine(HK.out _ (Below.refl _ _)).mono ?_
 rintro e w1 ⟨v,rfl,ho,hb⟩
 obtain⟨A1,c1,rfl,_,_,_,_⟩:=ho.form
 have HR:=zH (aS.row ho (by omega))
 have HB:=zH hb
 clear ho hb
 go_wp2_with fail
 refine(EB t _ _ _ a _ HR.out).mono ?_
 rintro e w2 ⟨v,rfl,ho,hb⟩
 have HO:=zH (ho.base HB.out.size)
 have HB2:=zH (aA HB.out hb)
 clear ho hb
 go_wp2_with fail
 go_ret
 exact⟨_,rfl,HO.out,HB2.out⟩
theorem Q7(t:Int)(b:Nat)(q r:Option Addr)(w:World)(a c:List Int)(ha:a.length≤70)(hc:c.length≤70)(hn:fF w b 38 q r)
  (hk:∀W,Below w.heap.size w W→Calls Tryz.prog 141 #[.int .i64 t,.pointer q] W (hI a W))
  (hk2:∀W,Below w.heap.size w W→Calls Tryz.prog 141 #[.int .i64 t,.pointer r] W (hI c W)):
  Calls Tryz.prog 141 #[.int .i64 t,.pointer (some ⟨b,0,none⟩)] w (hI (gU t a c) w):=by
 obtain⟨hc0,hc1,hc2,hlt⟩:=iE hn
 have HK:=zH hk
 have HK2:=zH hk2
 have HN:=zH hn
 have hc0:w.cell? ⟨b,0,none⟩=some (.int .u8 38):=hc0
 have HBd:Hid (Below w.heap.size w w.drew):=aE (Below.refl _ w) 1
 clear hk hn hk2
 go_enter Tryz.func141,Tryz.ntmps141
 go_wp2_with fail
 go_region_held3 (fun w' =>w'.cell? ⟨b,1,none⟩=some (.pointer q)∧w'.cell? ⟨b,2,none⟩=some (.pointer r))
  (first|go_keep|exact eK HN.out HB3.out|exact eK HN.out HB2.out|exact eK HN.out HB1.out)
  (first
   |(go_at_call 141;((with_reducible refine(HK.out w.drew HBd.out).mono ?_));rintro e w1 ⟨v,rfl,ho,hb⟩;obtain⟨A1,c1,rfl,_,_,_,_⟩:=ho.form;have HR1:=zH (aS.row ho (by omega));have HB1:Hid (Below w.heap.size w w1):=aA HBd.out hb;clear ho hb HK HBd)
   |(go_at_call 141;((with_reducible refine(HK2.out _ HB1.out).mono ?_));rintro e w2 ⟨v,rfl,ho,hb⟩;obtain⟨A2,c2,rfl,_,_,_,_⟩:=ho.form;have HR2:=zH (aS.row ho (by omega));replace HR1:=zH (HR1.out.below hb);have HB2:Hid (Below w.heap.size w w2):=aA HB1.out hb;clear ho hb HK2 HB1)
   |(go_at_call 156;refine(H3 t _ _ _ _ _ _ a c _ HR1.out HR2.out).mono ?_;rintro e w3 ⟨v,rfl,ho,hb⟩;have HO:=zH (ho.base HB2.out.size);have HB3:Hid (Below w.heap.size w w3):=aA HB2.out hb;clear ho hb))
 go_wp2_with fail
 go_ret
 exact⟨_,rfl,HO.out,HB3.out⟩
theorem L9(t:Int)(b:Nat)(q r:Option Addr)(w:World)(a c:List Int)(ha:a.length≤70)(hc:c.length≤70)(hn:fF w b 124 q r)
  (hk:∀W,Below w.heap.size w W→Calls Tryz.prog 141 #[.int .i64 t,.pointer q] W (hI a W))
  (hk2:∀W,Below w.heap.size w W→Calls Tryz.prog 141 #[.int .i64 t,.pointer r] W (hI c W)):
  Calls Tryz.prog 141 #[.int .i64 t,.pointer (some ⟨b,0,none⟩)] w (hI (fB t a c) w):=by
 obtain⟨hc0,hc1,hc2,hlt⟩:=iE hn
 have HK:=zH hk
 have HK2:=zH hk2
 have HN:=zH hn
 have hc0:w.cell? ⟨b,0,none⟩=some (.int .u8 124):=hc0
 have HBd:Hid (Below w.heap.size w w.drew):=aE (Below.refl _ w) 1
 clear hk hn hk2
 go_enter Tryz.func141,Tryz.ntmps141
 go_wp2_with fail
 go_region_held3 (fun w' =>w'.cell? ⟨b,1,none⟩=some (.pointer q)∧w'.cell? ⟨b,2,none⟩=some (.pointer r))
  (first|go_keep|exact eK HN.out HB3.out|exact eK HN.out HB2.out|exact eK HN.out HB1.out)
  (first
   |(go_at_call 141;((with_reducible refine(HK.out w.drew HBd.out).mono ?_));rintro e w1 ⟨v,rfl,ho,hb⟩;obtain⟨A1,c1,rfl,_,_,_,_⟩:=ho.form;have HR1:=zH (aS.row ho (by omega));have HB1:Hid (Below w.heap.size w w1):=aA HBd.out hb;clear ho hb HK HBd)
   |(go_at_call 141;((with_reducible refine(HK2.out _ HB1.out).mono ?_));rintro e w2 ⟨v,rfl,ho,hb⟩;obtain⟨A2,c2,rfl,_,_,_,_⟩:=ho.form;have HR2:=zH (aS.row ho (by omega));replace HR1:=zH (HR1.out.below hb);have HB2:Hid (Below w.heap.size w w2):=aA HB1.out hb;clear ho hb HK2 HB1)
   |(go_at_call 157;refine(vY t _ _ _ _ _ _ a c _ HR1.out HR2.out).mono ?_;rintro e w3 ⟨v,rfl,ho,hb⟩;have HO:=zH (ho.base HB2.out.size);have HB3:Hid (Below w.heap.size w w3):=aA HB2.out hb;clear ho hb))
 go_wp2_with fail
 go_ret
 exact⟨_,rfl,HO.out,HB3.out⟩
theorem V6(t:Int)(b:Nat)(q r:Option Addr)(w:World)(a c:List Int)(ha:a.length≤70)(hc:c.length≤70)(hn:fF w b 62 q r)
  (hk:∀W,Below w.heap.size w W→Calls Tryz.prog 141 #[.int .i64 t,.pointer q] W (hI a W))
  (hk2:∀W,Below w.heap.size w W→Calls Tryz.prog 141 #[.int .i64 t,.pointer r] W (hI c W)):
  Calls Tryz.prog 141 #[.int .i64 t,.pointer (some ⟨b,0,none⟩)] w (hI (nP t a c) w):=by
 obtain⟨hc0,hc1,hc2,hlt⟩:=iE hn
 have HK:=zH hk
 have HK2:=zH hk2
 have HN:=zH hn
 have hc0:w.cell? ⟨b,0,none⟩=some (.int .u8 62):=hc0
 have HBd:Hid (Below w.heap.size w w.drew):=aE (Below.refl _ w) 1
 clear hk hn hk2
 go_enter Tryz.func141,Tryz.ntmps141
 go_wp2_with fail
 go_region_held3 (fun w' =>w'.cell? ⟨b,1,none⟩=some (.pointer q)∧w'.cell? ⟨b,2,none⟩=some (.pointer r))
  (first|go_keep|exact eK HN.out HB3.out|exact eK HN.out HB2.out|exact eK HN.out HB1.out)
  (first
   |(go_at_call 141;((with_reducible refine(HK.out w.drew HBd.out).mono ?_));rintro e w1 ⟨v,rfl,ho,hb⟩;obtain⟨A1,c1,rfl,_,_,_,_⟩:=ho.form;have HR1:=zH (aS.row ho (by omega));have HB1:Hid (Below w.heap.size w w1):=aA HBd.out hb;clear ho hb HK HBd)
   |(go_at_call 141;((with_reducible refine(HK2.out _ HB1.out).mono ?_));rintro e w2 ⟨v,rfl,ho,hb⟩;obtain⟨A2,c2,rfl,_,_,_,_⟩:=ho.form;have HR2:=zH (aS.row ho (by omega));replace HR1:=zH (HR1.out.below hb);have HB2:Hid (Below w.heap.size w w2):=aA HB1.out hb;clear ho hb HK2 HB1)
   |(go_at_call 158;refine(P4 t _ _ _ _ _ _ a c _ HR1.out HR2.out).mono ?_;rintro e w3 ⟨v,rfl,ho,hb⟩;have HO:=zH (ho.base HB2.out.size);have HB3:Hid (Below w.heap.size w w3):=aA HB2.out hb;clear ho hb))
 go_wp2_with fail
 go_ret
 exact⟨_,rfl,HO.out,HB3.out⟩
theorem yV(t:Int)(b c:Nat)(q r:Option Addr)(w:World)(h1:1≤t)(h3:t≤3)(hc:nY c)(hn:fF w b c q r):
  Calls Tryz.prog 141 #[.int .i64 t,.pointer (some ⟨b,0,none⟩)] w (hI (fK t (bV c (aP t))) w):=by
 obtain⟨hc0,hc1,hc2,hlt⟩:=iE hn
 obtain⟨hw,hw8⟩:=lI h1 h3
 have HW:=zH hw
 have HC:=zH hc
 obtain⟨n,HNW⟩:∃n,Hid (aP t=n):=⟨_,rfl⟩
 clear hn hw
 rw[HNW.out] at hw8 HW⊢
 obtain⟨g,HG⟩:∃g:Nat,Hid (bV c n=g):=⟨_,rfl⟩
 rw[HG.out]
 rcases hc with rfl|rfl|rfl|rfl|rfl
 all_goals
  go_enter Tryz.func141,Tryz.ntmps141
  go_wp2_with fail
  refine(qG _ _ HW.out hw8 _ _ HC.out).mono ?_
  rintro e w' ⟨rfl,rfl⟩
  rw[HG.out]
  go_wp2_with fail
  refine(pD _ _ _).mono ?_
  rintro e w2 ⟨v,rfl,ho,hb⟩
  have HO:=zH ho
  have HB:=zH hb
  clear ho hb
  go_wp2_with fail
  go_ret
  exact⟨_,rfl,HO.out,HB.out⟩
theorem rI{t s:Int}(h:aO t s=true):fK t s=[s]:=by unfold fK;rw[h];rfl
theorem nE(t:Int)(h1:1≤t)(h3:t≤3):∀(x:bD) (p:Option Addr) (lo:Nat) (w:World),eI t x=true→bO w lo x p→
  Calls Tryz.prog 141 #[.int .i64 t,.pointer p] w (hI (bE t x) w)
 | .no a,_,lo,w,hx,⟨b,q,rfl,_,hn,h⟩=>SQ t b q none w _ (dJ (bA h1 h3 a)).2 hn (fun W hb=>nE t h1 h3 a q lo W hx (h.below hb))
 | .ask a,_,lo,w,hx,⟨b,q,rfl,_,hn,h⟩=>IA t b q none w _ (dJ (bA h1 h3 a)).2 hn (fun W hb=>nE t h1 h3 a q lo W hx (h.below hb))
 | .and_ a c,_,lo,w,hx,⟨b,q,r,rfl,_,hn,h,h2⟩=>by
   unfold eI at hx
   rw[Bool.and_eq_true] at hx
   exact Q7 t b q r w _ _ (dJ (bA h1 h3 a)).2 (dJ (bA h1 h3 c)).2 hn (fun W hb=>nE t h1 h3 a q lo W hx.1 (h.below hb)) (fun W hb=>nE t h1 h3 c r lo W hx.2 (h2.below hb))
 | .or_ a c,_,lo,w,hx,⟨b,q,r,rfl,_,hn,h,h2⟩=>by
   unfold eI at hx
   rw[Bool.and_eq_true] at hx
   exact L9 t b q r w _ _ (dJ (bA h1 h3 a)).2 (dJ (bA h1 h3 c)).2 hn (fun W hb=>nE t h1 h3 a q lo W hx.1 (h.below hb)) (fun W hb=>nE t h1 h3 c r lo W hx.2 (h2.below hb))
 | .if_ a c,_,lo,w,hx,⟨b,q,r,rfl,_,hn,h,h2⟩=>by
   unfold eI at hx
   rw[Bool.and_eq_true] at hx
   exact V6 t b q r w _ _ (dJ (bA h1 h3 a)).2 (dJ (bA h1 h3 c)).2 hn (fun W hb=>nE t h1 h3 a q lo W hx.1 (h.below hb)) (fun W hb=>nE t h1 h3 c r lo W hx.2 (h2.below hb))
 | .one,_,_,w,hx,⟨b,rfl,_,hn⟩=>by
   have:=yV t b 49 none none w h1 h3 (.inr (.inl rfl)) hn
   rw[y3 h1 h3,rI (cW h1 h3 (bH t).1 (Int.le_refl _))] at this
   exact this
 | .zero,_,_,w,hx,⟨b,rfl,_,hn⟩=>by
   have:=yV t b 48 none none w h1 h3 (.inl rfl) hn
   rw[wW h1 h3,rI (cW h1 h3 (Int.le_refl _) (bH t).1)] at this
   exact this
 | .thing i,_,_,w,hx,⟨b,rfl,_,hn⟩=>by
   have hi:(i:Int)<t:=of_decide_eq_true hx
   have:=yV t b (97+i) none none w h1 h3 (by unfold nY;omega) hn
   rw[nF h1 h3 hi,rI (oQ h1 h3 i)] at this
   exact this
end Go.Proofs.YtfhjcacfchkdpaaGreatDoor
