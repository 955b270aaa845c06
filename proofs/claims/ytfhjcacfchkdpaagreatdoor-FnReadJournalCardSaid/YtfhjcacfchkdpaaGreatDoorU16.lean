/-
  What the proofs of this seat's statements share (LdcS, LdcF, LdcG, MathW).
-/
import Derived.Deep.RegionWith
import Derived.Test.YtfhjcacfchkdpaaGreatDoorU15
set_option maxRecDepth 100000
set_option maxHeartbeats 32000000
namespace Go.Proofs.YtfhjcacfchkdpaaGreatDoor
open Go.RowKit
def mI(t:Int)(c:Nat):Bool:=decide (c=49)||decide (c=48)||decide (97≤c∧(c:Int)-97<t)||decide (c=33)||decide (c=91)||decide (c=40)
def R8(t:Int)(st:ByteArray):Prop:=∀c:UInt8,st.data.toList.contains c=mI t c.toNat
theorem F2(t:Int)(k c:Nat)(l:List Nat)(h:mI t c=false):bJ t (k+1) (c::l)=none:=by
 unfold mI at h
 simp only[Bool.or_eq_false_iff,decide_eq_false_iff_not] at h
 unfold bJ
 rw[if_neg h.1.1.1.1.1,if_neg h.1.1.1.1.2,if_neg h.1.1.1.2,if_neg h.1.1.2,if_neg h.1.2,if_neg h.2]
theorem yD(t:Int):∀n,bJ t n []=none
 |0=>rfl
 |_+1=>rfl
theorem AH(t:Int)(k:Nat)(l:List Nat):bJ t (k+1) (33::l)=(bJ t k l).map fun p=>(.no p.1,p.2):=by
 conv=>lhs;unfold bJ
 simp
def kL(t:Int)(k:Nat)(l:List Nat):Option (Ld×List Nat):=
 match bJ t k l with
 |some (x,m::l2)=>if m=93 then(bJ t k l2).map fun p=>(.pre x p.1,p.2) else none
 |_=>none
theorem x4(t:Int)(k:Nat)(l:List Nat):bJ t (k+1) (91::l)=kL t k l:=by
 conv=>lhs;unfold bJ
 by_cases h:97≤91∧((91:Nat):Int)-97<t
 ·omega
 ·simp only[show¬(91:Nat)=49 by omega,show¬(91:Nat)=48 by omega,h,show¬(91:Nat)=33 by omega,if_false,if_true]
  rfl
theorem wJ(t:Int)(k:Nat)(l:List Nat):bJ t (k+1) (40::l)=cZ t k l:=by
 conv=>lhs;unfold bJ
 by_cases h:97≤40∧((40:Nat):Int)-97<t
 ·omega
 ·simp only[show¬(40:Nat)=49 by omega,show¬(40:Nat)=48 by omega,h,show¬(40:Nat)=33 by omega,show¬(40:Nat)=91 by omega,if_false,if_true]
  rfl
theorem tK(c:UInt8):(ByteArray.mk #[93]).data.toList.contains c=decide (c.toNat=93):=by
 rw[Bool.eq_iff_iff]
 simp only[List.contains_iff_mem,decide_eq_true_eq]
 have e:∀k:UInt8,c=k↔c.toNat=k.toNat:=fun k=>UInt8.toNat_inj.symm
 simp[e]
theorem RN{t s:Int}(h1:1≤t)(h3:t≤3)(h0:0≤s)(ha:s≤aJ t):aQ s (aJ t)=s:=
 eB (aR _ _) h0 fun w=>by
  rw[nB]
  cases h:aI s w
  ·rfl
  ·rw[rK h1 h3,decide_eq_true (fX h1 h3 h0 ha h)];rfl
theorem QV{t:Int}{c:Nat}(ht1:1≤t)(ht3:t≤3)(h:mI t c=true)(h1:c≠33)(h2:c≠91)(h3:c≠40):
  ∃x,(∀k l,bJ t (k+1) (c::l)=some (x,l))∧nY c∧∀s,0≤s→s≤aJ t→aT t x s=some (bits .and .i64 s (bV c (aP t))):=by
 have hall:=bH t
 unfold mI at h
 simp only[Bool.or_eq_true,decide_eq_true_eq] at h
 by_cases e1:c=49
 ·subst e1
  refine⟨.one,fun _ _=>rfl,.inr (.inl rfl),fun s h0 ha=> ?_⟩
  rw[y3 ht1 ht3,mM s (aJ t) h0 (by omega) hall.1 (by omega),RN ht1 ht3 h0 ha];rfl
 by_cases e2:c=48
 ·subst e2
  refine⟨.zero,fun _ _=>rfl,.inl rfl,fun s h0 ha=> ?_⟩
  rw[wW ht1 ht3,mM s 0 h0 (by omega) (by omega) (by omega)]
  show some (0:Int)=some (aQ s 0)
  congr 1
  unfold aQ;simp
 have h4:97≤c∧(c:Int)-97<t:=by omega
 obtain⟨i,rfl⟩:∃i,c=97+i:=⟨c-97,by omega⟩
 have hr:=z7 (97+i) ht1 ht3 (show nY (97+i) by unfold nY;omega)
 refine⟨.thing i,fun k l=> ?_,by unfold nY;omega,fun s h0 ha=> ?_⟩
 ·unfold bJ
  rw[if_neg e1,if_neg e2,if_pos h4]
  congr 3;omega
 ·rw[mM s _ h0 (by omega) (by omega) (by omega),nF ht1 ht3 (by omega)];rfl
theorem SS(t:Int)(R:Nat)(s st:ByteArray)(hs:s.size≤1048576)(ht1:1≤t)(ht3:t≤3)(hst:R8 t st):∀k,tO t k R s st:=by
 have hmf:∀(fn:Fn) (first cap:Array Value) (w:World),(Instr.makeFunc fn first cap).run Tryz.prog w= .ok (.func fn first cap) w:=fun _ _ _ _=>rfl
 have HST:=zH hst
 clear hst
 intro k
 induction k with
 |zero=>
  intro at_ w hr hle hk
  obtain rfl:at_=s.size:=by omega
  have hR:=mL hr
  obtain⟨W,hW⟩:∃W,w.alloc (.cells #[.nilFunc] 170)=W:=⟨_,rfl⟩
  have hrW:bT W R s s.size st:=by rw[←hW];exact cP hr _
  have hgW:Hid (w.grownBy W (some R)):=by rw[←hW];exact bB (World.grownBy.refl w (some R)) _
  obtain⟨_,_,hc2,_,_⟩:=j2 (show bT (w.alloc (.cells #[.nilFunc] 170)) R s _ st by rw[hW];exact hrW)
  have HT:=zH (j0 R s st st W hs hrW)
  have HW:=zH hW
  show Calls _ _ _ _ (cM R w)
  clear hr hrW hW
  go_enter Tryz.func168,Tryz.ntmps168
  go_wp2_with fail
  rw[HW.out]
  refine HT.out.mono ?_
  rintro e w1 ⟨v,rfl,hg⟩
  exact⟨rfl,v,rfl,hgW.out.trans hg⟩
 |succ k ih=>
  intro at_ w hr hle hk
  have hR:=mL hr
  obtain⟨W,hW⟩:∃W,w.alloc (.cells #[.nilFunc] 170)=W:=⟨_,rfl⟩
  have hrW:bT W R s at_ st:=by rw[←hW];exact cP hr _
  have HGW:Hid (w.grownBy W (some R)):=by rw[←hW];exact bB (World.grownBy.refl w (some R)) _
  have HX:Hid (Boxed W w.heap.size 170 .nilFunc):=by rw[←hW];exact Boxed.new w 170 .nilFunc
  have hsz:W.heap.size=w.heap.size+1:=by rw[←hW,World.size_alloc]
  obtain⟨_,_,hc2,_,_⟩:=j2 (show bT (w.alloc (.cells #[.nilFunc] 170)) R s _ st by rw[hW];exact hrW)
  have HW:=zH hW
  clear hW
  by_cases hlt:at_<s.size
  ·have hd:=mA hlt
   rw[hd]
   obtain⟨c,hc⟩:∃c,s[at_].toNat=c:=⟨_,rfl⟩
   rw[hc]
   have hc255:c<256:=by rw[←hc];exact UInt8.toNat_lt _
   rcases hb:mI t c with _|_
   ·have HT:=zH (mK R s st st at_ W hs hlt hrW (by rw[HST.out,hc,hb]))
    rw[F2 t k c _ hb]
    show Calls _ _ _ _ (cM R w)
    clear hr hrW hb ih hd
    go_enter Tryz.func168,Tryz.ntmps168
    go_wp2_with fail
    rw[HW.out]
    refine HT.out.mono ?_
    rintro e w1 ⟨v,rfl,hg⟩
    exact⟨rfl,v,rfl,HGW.out.trans hg⟩
   ·have HT:=zH (eO hs hlt hc hrW (al:=st) (by rw[HST.out,hc,hb]))
    have HIH:=zH ih
    by_cases e33:c=33
    ·subst e33
     rw[AH]
     rcases h1:bJ t k ((aG s).drop (at_+1)) with _|⟨x,rest⟩
     ·show Calls _ _ _ _ (cM R w)
      have HH:=zH h1
      clear hr hrW hb ih hd h1
      go_enter Tryz.func168,Tryz.ntmps168
      go_wp2_with fail
      rw[HW.out]
      refine HT.out.mono ?_
      rintro e w1 ⟨rfl,hr1,hg⟩
      have hs1:W.heap.size≤w1.heap.size:=hg.size
      have HI:=zH (nU HIH.out hr1 (by omega) (by omega) HH.out)
      have HG:=zH (HGW.out.trans hg)
      clear hr1 hg
      go_wp2_with fail
      refine HI.out.mono ?_
      rintro e w2 ⟨v,rfl,hg2⟩
      exact⟨rfl,v,rfl,HG.out.trans hg2⟩
     ·show Calls _ _ _ _ (g6 t R s st (.no x) rest w)
      have HH:=zH h1
      clear hr hrW hb ih hd h1
      go_enter Tryz.func168,Tryz.ntmps168
      go_wp2_with fail
      rw[HW.out]
      refine HT.out.mono ?_
      rintro e w1 ⟨rfl,hr1,hg⟩
      have hs1:W.heap.size≤w1.heap.size:=hg.size
      have HI:=zH (eN HIH.out hr1 (by omega) (by omega) HH.out)
      have HG:=zH (HGW.out.trans hg)
      replace HX:=zH (HX.out.kept hg (fun e=>by have:=Option.some.inj e;omega))
      clear hr1 hg
      go_wp2_with fail
      refine HI.out.mono ?_
      rintro e w2 ⟨v2,a2,rfl,hle2,hd2,hr2,hn2,hg2⟩
      obtain⟨g2,cap2,rfl⟩:=hn2.form
      have hs2:w1.heap.size≤w2.heap.size:=hg2.size
      have HMK:=zH (VY t x _ W.heap.size w2 (by omega) (bF.low hs1 hn2))
      have HG2:=zH (HG.out.trans hg2)
      replace HX:=zH (HX.out.kept hg2 (fun e=>by have:=Option.some.inj e;omega))
      have HR2:=zH hr2
      have HD2:=zH hd2
      clear hd2 hr2 hn2 hg2
      go_wp2_with (go_at_call 183;refine HMK.out.mono ?_;clear HMK;rintro e w5 ⟨v5,rfl,hn5,hb5⟩;obtain⟨g5,cap5,rfl⟩:=hn5.form;have hx4:=(Boxed.cell (show Boxed w5 _ _ _ from(hb5.block _ HX.out.lt).trans HX.out));have hf4:=(Boxed.frozen (show Boxed w5 _ _ _ from(hb5.block _ HX.out.lt).trans HX.out));have HR5:Hid (bT w5 R s a2 st):=(hb5.block _ (mL HR2.out)).trans HR2.out;have HG5:=zH (fU HG2.out hb5);have HX:=zH (show Boxed w5 _ _ _ from(hb5.block _ HX.out.lt).trans HX.out);have HN5:=zH hn5;clear hn5 hb5)
      have hc:=(HX.out.set (.func (.func g5) #[] cap5)).cell
      have HE:=zH (mJ (B:=w.heap.size) (Nat.le_refl _) hR hle2 HD2.out HR5.out (by rw[←hsz];exact HN5.out) HG5.out)
      exact⟨rfl,.agg #[.func (.func g5) #[] cap5],by simp[results,Tryz.results168,go_sem,hc],HE.out⟩
    by_cases e91:c=91
    ·subst e91
     rw[x4]
     rcases h1:bJ t k ((aG s).drop (at_+1)) with _|⟨x,_|⟨m,l2⟩⟩
     ·rw[show kL t k ((aG s).drop (at_+1))=none by unfold kL;rw[h1]]
      show Calls _ _ _ _ (cM R w)
      have HH:=zH h1
      clear hr hrW hb ih hd h1
      go_enter Tryz.func168,Tryz.ntmps168
      go_wp2_with fail
      rw[HW.out]
      refine HT.out.mono ?_
      rintro e w1 ⟨rfl,hr1,hg⟩
      have hs1:W.heap.size≤w1.heap.size:=hg.size
      have HI:=zH (nU HIH.out hr1 (by omega) (by omega) HH.out)
      have HG:=zH (HGW.out.trans hg)
      clear hr1 hg
      go_wp2_with fail
      refine HI.out.mono ?_
      rintro e w2 ⟨v,rfl,hg2⟩
      exact⟨rfl,v,rfl,HG.out.trans hg2⟩
     ·rw[show kL t k ((aG s).drop (at_+1))=none by unfold kL;rw[h1]]
      show Calls _ _ _ _ (cM R w)
      have HH:=zH h1
      clear hr hrW hb ih hd h1
      go_enter Tryz.func168,Tryz.ntmps168
      go_wp2_with fail
      rw[HW.out]
      refine HT.out.mono ?_
      rintro e w1 ⟨rfl,hr1,hg⟩
      have hs1:W.heap.size≤w1.heap.size:=hg.size
      have HI:=zH (eN HIH.out hr1 (by omega) (by omega) HH.out)
      have HG:=zH (HGW.out.trans hg)
      replace HX:=zH (HX.out.kept hg (fun e=>by have:=Option.some.inj e;omega))
      clear hr1 hg
      go_wp2_with fail
      refine HI.out.mono ?_
      rintro e w2 ⟨v2,a2,rfl,hle2,hd2,hr2,hn2,hg2⟩
      obtain⟨g2,cap2,rfl⟩:=hn2.form
      have hs2:w1.heap.size≤w2.heap.size:=hg2.size
      obtain⟨W2,hW2⟩:∃W,w2.alloc (.cells #[.func (.func g2) #[] cap2] 170)=W:=⟨_,rfl⟩
      have hrW2:bT W2 R s a2 st:=by rw[←hW2];exact cP hr2 _
      have HG2:Hid (w.grownBy W2 (some R)):=by rw[←hW2];exact bB (HG.out.trans hg2) _
      have HX6:Hid (Boxed W2 w2.heap.size 170 (.func (.func g2) #[] cap2)):=by rw[←hW2];exact Boxed.new w2 _ _
      have hs3:W2.heap.size=w2.heap.size+1:=by rw[←hW2,World.size_alloc]
      have HN:Hid (bF t W2 W.heap.size x (.func (.func g2) #[] cap2)):=by rw[←hW2];exact(bF.low hs1 hn2).below ((Below.refl _ _).alloc (Nat.le_refl _) _)
      replace HX:=zH (show Boxed W2 _ _ _ by rw[←hW2];exact(HX.out.kept hg2 (fun e=>by have:=Option.some.inj e;omega)).alloc _)
      have HW2:=zH hW2
      clear hr2 hn2 hg2 hW2
      obtain rfl:=eH hd2 hle2
      have HT2:=zH (j0 R s st ⟨#[93]⟩ W2 hs hrW2)
      clear hd2 hrW2
      go_wp2_with fail
      rw[HW2.out]
      refine HT2.out.mono ?_
      rintro e w3 ⟨v,rfl,hg3⟩
      exact⟨rfl,v,rfl,HG2.out.trans hg3⟩
     ·by_cases hm:m=93
      ·subst hm
       rcases h2:bJ t k l2 with _|⟨y,r⟩
       ·rw[show kL t k ((aG s).drop (at_+1))=none by unfold kL;rw[h1];simp only[if_true];rw[h2];rfl]
        show Calls _ _ _ _ (cM R w)
        have HH:=zH h1
        have HH2:=zH h2
        clear hr hrW hb ih hd h1 h2
        go_enter Tryz.func168,Tryz.ntmps168
        go_wp2_with fail
        rw[HW.out]
        refine HT.out.mono ?_
        rintro e w1 ⟨rfl,hr1,hg⟩
        have hs1:W.heap.size≤w1.heap.size:=hg.size
        have HI:=zH (eN HIH.out hr1 (by omega) (by omega) HH.out)
        have HG:=zH (HGW.out.trans hg)
        replace HX:=zH (HX.out.kept hg (fun e=>by have:=Option.some.inj e;omega))
        clear hr1 hg
        go_wp2_with fail
        refine HI.out.mono ?_
        rintro e w2 ⟨v2,a2,rfl,hle2,hd2,hr2,hn2,hg2⟩
        obtain⟨g2,cap2,rfl⟩:=hn2.form
        have hs2:w1.heap.size≤w2.heap.size:=hg2.size
        obtain⟨W2,hW2⟩:∃W,w2.alloc (.cells #[.func (.func g2) #[] cap2] 170)=W:=⟨_,rfl⟩
        have hrW2:bT W2 R s a2 st:=by rw[←hW2];exact cP hr2 _
        have HG2:Hid (w.grownBy W2 (some R)):=by rw[←hW2];exact bB (HG.out.trans hg2) _
        have HX6:Hid (Boxed W2 w2.heap.size 170 (.func (.func g2) #[] cap2)):=by rw[←hW2];exact Boxed.new w2 _ _
        have hs3:W2.heap.size=w2.heap.size+1:=by rw[←hW2,World.size_alloc]
        have HN:Hid (bF t W2 W.heap.size x (.func (.func g2) #[] cap2)):=by rw[←hW2];exact(bF.low hs1 hn2).below ((Below.refl _ _).alloc (Nat.le_refl _) _)
        replace HX:=zH (show Boxed W2 _ _ _ by rw[←hW2];exact(HX.out.kept hg2 (fun e=>by have:=Option.some.inj e;omega)).alloc _)
        have HW2:=zH hW2
        clear hr2 hn2 hg2 hW2
        have hlt2:=jV HH.out hd2 (by omega) hle2
        obtain⟨hlt3,hm3,hd4⟩:=aW hd2
        have HT2:=zH (eO hs hlt3 hm3 hrW2 (al:=⟨#[93]⟩) (by rw[tK,hm3];rfl))
        have HD4:=zH hd4
        clear hd2 hrW2 hm3 hd4
        go_wp2_with fail
        rw[HW2.out]
        refine HT2.out.mono ?_
        rintro e w3 ⟨rfl,hr3,hg3⟩
        have HI2:=zH (nU HIH.out (w:=w3.drew) hr3 (by omega) (by omega) (by rw[HD4.out];exact HH2.out))
        have HG3:=zH (HG2.out.trans hg3)
        have hx6:=(HX6.out.kept hg3 (fun e=>by have:=Option.some.inj e;omega)).cell
        clear hr3 hg3
        go_upto_region 8 with fail
        have hx6d:w3.drew.cell? ⟨w2.heap.size,0,none⟩=some (.func (.func g2) #[] cap2):=hx6
        refine wp_region_held_drew (S:=fun W=>W=w3.drew) (by kernel_rfl) rfl (fun _=> ?_)
        refine wpAnyH_take (i:=0) (v:= .agg #[.func (.func g2) #[] cap2]) rfl (by kernel_rfl) (by kernel_rfl) (by kernel_rfl) (fun _ _ _ h=>h) (Or.inl ⟨by rfl,fun w hw=>by subst hw;simp[go_sem,hx6d]⟩) rfl ?_
        simp only[Act.put,zS]
        refine wpAnyH_take (i:=1) (v:= .pointer (some ⟨R,0,none⟩)) rfl (by kernel_rfl) (by kernel_rfl) (by kernel_rfl) (fun _ _ _ h=>h) (Or.inl ⟨by rfl,fun w _=>by rfl⟩) rfl ?_
        simp only[Act.put,zS]
        refine wpAnyH_take (i:=2) (v:= .int .i64 t) rfl (by kernel_rfl) (by kernel_rfl) (by kernel_rfl) (fun _ _ _ h=>h) (Or.inl ⟨by rfl,fun w _=>by rfl⟩) rfl ?_
        simp only[Act.put,zS]
        refine wpAnyH_ready (rs:=[3]) (by kernel_rfl) (by simp) ?_
        refine AllReadyH.cons rfl (fun K hK=> ?_) AllReadyH.nil
        go_simp
        go_at_call 168
        refine HI2.out.mono ?_
        rintro e w4 ⟨v,rfl,hg4⟩
        exact⟨rfl,v,rfl,HG3.out.trans ((eM (World.grownBy.refl w3 (some R)) 1).trans hg4)⟩
       ·rw[show kL t k ((aG s).drop (at_+1))=some (.pre x y,r) by unfold kL;rw[h1];simp only[if_true];rw[h2];rfl]
        show Calls _ _ _ _ (g6 t R s st _ r w)
        have HH:=zH h1
        have HH2:=zH h2
        clear hr hrW hb ih hd h1 h2
        go_enter Tryz.func168,Tryz.ntmps168
        go_wp2_with fail
        rw[HW.out]
        refine HT.out.mono ?_
        rintro e w1 ⟨rfl,hr1,hg⟩
        have hs1:W.heap.size≤w1.heap.size:=hg.size
        have HI:=zH (eN HIH.out hr1 (by omega) (by omega) HH.out)
        have HG:=zH (HGW.out.trans hg)
        replace HX:=zH (HX.out.kept hg (fun e=>by have:=Option.some.inj e;omega))
        clear hr1 hg
        go_wp2_with fail
        refine HI.out.mono ?_
        rintro e w2 ⟨v2,a2,rfl,hle2,hd2,hr2,hn2,hg2⟩
        obtain⟨g2,cap2,rfl⟩:=hn2.form
        have hs2:w1.heap.size≤w2.heap.size:=hg2.size
        obtain⟨W2,hW2⟩:∃W,w2.alloc (.cells #[.func (.func g2) #[] cap2] 170)=W:=⟨_,rfl⟩
        have hrW2:bT W2 R s a2 st:=by rw[←hW2];exact cP hr2 _
        have HG2:Hid (w.grownBy W2 (some R)):=by rw[←hW2];exact bB (HG.out.trans hg2) _
        have HX6:Hid (Boxed W2 w2.heap.size 170 (.func (.func g2) #[] cap2)):=by rw[←hW2];exact Boxed.new w2 _ _
        have hs3:W2.heap.size=w2.heap.size+1:=by rw[←hW2,World.size_alloc]
        have HN:Hid (bF t W2 W.heap.size x (.func (.func g2) #[] cap2)):=by rw[←hW2];exact(bF.low hs1 hn2).below ((Below.refl _ _).alloc (Nat.le_refl _) _)
        replace HX:=zH (show Boxed W2 _ _ _ by rw[←hW2];exact(HX.out.kept hg2 (fun e=>by have:=Option.some.inj e;omega)).alloc _)
        have HW2:=zH hW2
        clear hr2 hn2 hg2 hW2
        have hlt2:=jV HH.out hd2 (by omega) hle2
        obtain⟨hlt3,hm3,hd4⟩:=aW hd2
        have HT2:=zH (eO hs hlt3 hm3 hrW2 (al:=⟨#[93]⟩) (by rw[tK,hm3];rfl))
        have HD4:=zH hd4
        clear hd2 hrW2 hm3 hd4
        go_wp2_with fail
        rw[HW2.out]
        refine HT2.out.mono ?_
        rintro e w3 ⟨rfl,hr3,hg3⟩
        have hs4:W2.heap.size≤w3.heap.size:=hg3.size
        have HI2:=zH (eN HIH.out (w:=w3.drew) hr3 (by omega) (by omega) (by rw[HD4.out];exact HH2.out))
        have HG3:=zH (HG2.out.trans hg3)
        have hx6:=(HX6.out.kept hg3 (fun e=>by have:=Option.some.inj e;omega)).cell
        replace HN:=zH (HN.out.grown hg3 (by omega))
        replace HX:=zH (HX.out.kept hg3 (fun e=>by have:=Option.some.inj e;omega))
        replace HX6:=zH (HX6.out.kept hg3 (fun e=>by have:=Option.some.inj e;omega))
        clear hr3 hg3
        go_upto_region 8 with fail
        go_region_with (first
         |(go_at_call 168;refine HI2.out.mono ?_;clear HI2;rintro e w4 ⟨v4,a4,rfl,hle4,hd4,hr4,hn4,hg4⟩;obtain⟨g4,cap4,rfl⟩:=hn4.form;have hs5:w3.heap.size≤w4.heap.size:=hg4.size;have hg4:=(eM (World.grownBy.refl w3 (some R)) 1).trans hg4;have HMK:=zH (VB t x y _ _ W.heap.size w4 (by omega) (HN.out.grown hg4 (by omega)) (bF.low (show W.heap.size≤w3.heap.size by omega) hn4));have HG4:=zH (HG3.out.trans hg4);have HX4:=zH (HX.out.kept hg4 (fun e=>by have:=Option.some.inj e;omega));have hx64:=(HX6.out.kept hg4 (fun e=>by have:=Option.some.inj e;omega)).cell;have HR4:=zH hr4;have HD5:=zH hd4;clear hr4 hd4 hn4 hg4)
         |(go_at_call 184;refine HMK.out.mono ?_;clear HMK;rintro e w5 ⟨v5,rfl,hn5,hb5⟩;obtain⟨g5,cap5,rfl⟩:=hn5.form;have hx4:=(Boxed.cell (show Boxed w5 _ _ _ from(hb5.block _ HX4.out.lt).trans HX4.out));have hf4:=(Boxed.frozen (show Boxed w5 _ _ _ from(hb5.block _ HX4.out.lt).trans HX4.out));have HR5:Hid (bT w5 R s a4 st):=(hb5.block _ (mL HR4.out)).trans HR4.out;have HG5:=zH (fU HG4.out hb5);have HX:=zH (show Boxed w5 _ _ _ from(hb5.block _ HX4.out.lt).trans HX4.out);have HN5:=zH hn5;clear hn5 hb5))
        all_goals
         go_wp2_with fail
         have hc:=(HX.out.set (.func (.func g5) #[] cap5)).cell
         have HE:=zH (mJ (B:=w.heap.size) (Nat.le_refl _) hR hle4 HD5.out HR5.out (by rw[←hsz];exact HN5.out) HG5.out)
         exact⟨rfl,.agg #[.func (.func g5) #[] cap5],by simp[results,Tryz.results168,go_sem,hc],HE.out⟩
      ·rw[show kL t k ((aG s).drop (at_+1))=none by unfold kL;rw[h1];simp only;rw[if_neg hm]]
       show Calls _ _ _ _ (cM R w)
       have HH:=zH h1
       have HM:=zH hm
       clear hr hrW hb ih hd h1 hm
       go_enter Tryz.func168,Tryz.ntmps168
       go_wp2_with fail
       rw[HW.out]
       refine HT.out.mono ?_
       rintro e w1 ⟨rfl,hr1,hg⟩
       have hs1:W.heap.size≤w1.heap.size:=hg.size
       have HI:=zH (eN HIH.out hr1 (by omega) (by omega) HH.out)
       have HG:=zH (HGW.out.trans hg)
       replace HX:=zH (HX.out.kept hg (fun e=>by have:=Option.some.inj e;omega))
       clear hr1 hg
       go_wp2_with fail
       refine HI.out.mono ?_
       rintro e w2 ⟨v2,a2,rfl,hle2,hd2,hr2,hn2,hg2⟩
       obtain⟨g2,cap2,rfl⟩:=hn2.form
       have hs2:w1.heap.size≤w2.heap.size:=hg2.size
       obtain⟨W2,hW2⟩:∃W,w2.alloc (.cells #[.func (.func g2) #[] cap2] 170)=W:=⟨_,rfl⟩
       have hrW2:bT W2 R s a2 st:=by rw[←hW2];exact cP hr2 _
       have HG2:Hid (w.grownBy W2 (some R)):=by rw[←hW2];exact bB (HG.out.trans hg2) _
       have HX6:Hid (Boxed W2 w2.heap.size 170 (.func (.func g2) #[] cap2)):=by rw[←hW2];exact Boxed.new w2 _ _
       have hs3:W2.heap.size=w2.heap.size+1:=by rw[←hW2,World.size_alloc]
       have HN:Hid (bF t W2 W.heap.size x (.func (.func g2) #[] cap2)):=by rw[←hW2];exact(bF.low hs1 hn2).below ((Below.refl _ _).alloc (Nat.le_refl _) _)
       replace HX:=zH (show Boxed W2 _ _ _ by rw[←hW2];exact(HX.out.kept hg2 (fun e=>by have:=Option.some.inj e;omega)).alloc _)
       have HW2:=zH hW2
       clear hr2 hn2 hg2 hW2
       obtain⟨hlt3,hm3,_⟩:=aW hd2
       have HT2:=zH (mK R s st ⟨#[93]⟩ a2 W2 hs hlt3 hrW2 (by rw[tK,hm3];exact decide_eq_false HM.out))
       clear hd2 hrW2 hm3
       go_wp2_with fail
       rw[HW2.out]
       refine HT2.out.mono ?_
       rintro e w3 ⟨v,rfl,hg3⟩
       exact⟨rfl,v,rfl,HG2.out.trans hg3⟩
    by_cases e40:c=40
    ·subst e40
     rw[wJ]
     rcases h1:cZ t k ((aG s).drop (at_+1)) with _|⟨x,rest⟩
     ·show Calls _ _ _ _ (cM R w)
      have HH:=zH h1
      clear hr hrW hb ih hd h1
      go_enter Tryz.func168,Tryz.ntmps168
      go_wp2_with fail
      rw[HW.out]
      refine HT.out.mono ?_
      rintro e w1 ⟨rfl,hr1,hg⟩
      have hs1:W.heap.size≤w1.heap.size:=hg.size
      have hp:=NP t k R s st hs HIH.out (at_+1) w1 hr1 (by omega) (by omega)
      rw[HH.out] at hp
      have HI:Hid (Calls Tryz.prog 185 #[.pointer (some ⟨R,0,none⟩),.int .i64 t] w1 (cM R w1)):=hp
      have HG:=zH (HGW.out.trans hg)
      clear hr1 hg hp
      go_wp2_with fail
      refine HI.out.mono ?_
      rintro e w2 ⟨v,rfl,hg2⟩
      exact⟨rfl,v,rfl,HG.out.trans hg2⟩
     ·show Calls _ _ _ _ (g6 t R s st x rest w)
      have HH:=zH h1
      clear hr hrW hb ih hd h1
      go_enter Tryz.func168,Tryz.ntmps168
      go_wp2_with fail
      rw[HW.out]
      refine HT.out.mono ?_
      rintro e w1 ⟨rfl,hr1,hg⟩
      have hs1:W.heap.size≤w1.heap.size:=hg.size
      have hp:=NP t k R s st hs HIH.out (at_+1) w1 hr1 (by omega) (by omega)
      rw[HH.out] at hp
      have HI:Hid (Calls Tryz.prog 185 #[.pointer (some ⟨R,0,none⟩),.int .i64 t] w1 (g6 t R s st x rest w1)):=hp
      have HG:=zH (HGW.out.trans hg)
      replace HX:=zH (HX.out.kept hg (fun e=>by have:=Option.some.inj e;omega))
      clear hr1 hg hp
      go_wp2_with fail
      refine HI.out.mono ?_
      rintro e w5 ⟨v5,a2,rfl,hle2,hd2,hr2,hn2,hg2⟩
      obtain⟨g5,cap5,rfl⟩:=hn2.form
      have HN5:=zH (bF.low hs1 hn2)
      have HG5:=zH (HG.out.trans hg2)
      replace HX:=zH (HX.out.kept hg2 (fun e=>by have:=Option.some.inj e;omega))
      have HR5:=zH hr2
      have HD2:=zH hd2
      have hx4:=HX.out.cell
      have hf4:=HX.out.frozen
      clear hd2 hr2 hn2 hg2
      go_wp2_with fail
      have hc:=(HX.out.set (.func (.func g5) #[] cap5)).cell
      have HE:=zH (mJ (B:=w.heap.size) (Nat.le_refl _) hR hle2 HD2.out HR5.out (by rw[←hsz];exact HN5.out) HG5.out)
      exact⟨rfl,.agg #[.func (.func g5) #[] cap5],by simp[results,Tryz.results168,go_sem,hc],HE.out⟩
    ·obtain⟨x,hx1,hiw,hx2⟩:=QV ht1 ht3 hb e33 e91 e40
     rw[hx1]
     show Calls _ _ _ _ (g6 t R s st x _ w)
     have h33:((c:Int)==33)=false:=by rw[beq_eq_false_iff_ne];omega
     have h91:((c:Int)==91)=false:=by rw[beq_eq_false_iff_ne];omega
     have h40:((c:Int)==40)=false:=by rw[beq_eq_false_iff_ne];omega
     have hnw:=lI ht1 ht3
     have HCW:Hid (∀w,Calls Tryz.prog 160 #[.int .i64 t,.int .u8 c] w fun e w' =>e= .returned (.int .i64 (bV c (aP t)))∧w=w'):=fun w=>qG t (aP t) hnw.1 hnw.2 c w hiw
     have HCM:Hid (∀w:World,W.heap.size≤w.heap.size→Calls Tryz.prog 186 #[.int .i64 (bV c (aP t))] w (k7 t W.heap.size x w)):=fun w hw=>T5 t x _ W.heap.size w hw hx2
     obtain⟨so,HSO⟩:∃so:Nat,Hid (bV c (aP t)=so):=⟨_,rfl⟩
     rw[HSO.out] at HCW HCM
     clear hr hrW hb ih hd hx1 hx2 e33 e91 e40 hiw hnw HSO
     go_enter Tryz.func168,Tryz.ntmps168
     go_wp2_with fail
     rw[HW.out]
     refine HT.out.mono ?_
     rintro e w1 ⟨rfl,hr1,hg⟩
     have hs1:W.heap.size≤w1.heap.size:=hg.size
     have HG:=zH (HGW.out.trans hg)
     have HR1:=zH hr1
     replace HX:=zH (HX.out.kept hg (fun e=>by have:=Option.some.inj e;omega))
     have HMK:=zH (HCM.out w1 hs1)
     clear hr1 hg HCM
     go_wp2_with (first
      |(go_at_call 160;refine(HCW.out _).mono ?_;rintro e w' ⟨rfl,rfl⟩)
      |(go_at_call 186;refine HMK.out.mono ?_;clear HMK;rintro e w5 ⟨v5,rfl,hn5,hb5⟩;obtain⟨g5,cap5,rfl⟩:=hn5.form;have hx4:=(Boxed.cell (show Boxed w5 _ _ _ from(hb5.block _ HX.out.lt).trans HX.out));have hf4:=(Boxed.frozen (show Boxed w5 _ _ _ from(hb5.block _ HX.out.lt).trans HX.out));have HR5:Hid (bT w5 R s (at_+1) st):=(hb5.block _ (mL HR1.out)).trans HR1.out;have HG5:=zH (fU HG.out hb5);have HX:=zH (show Boxed w5 _ _ _ from(hb5.block _ HX.out.lt).trans HX.out);have HN5:=zH hn5;clear hn5 hb5))
     have hc:=(HX.out.set (.func (.func g5) #[] cap5)).cell
     have HE:=zH (mJ (B:=w.heap.size) (Nat.le_refl _) hR (by omega) rfl HR5.out (by rw[←hsz];exact HN5.out) HG5.out)
     exact⟨rfl,.agg #[.func (.func g5) #[] cap5],by simp[results,Tryz.results168,go_sem,hc],HE.out⟩
  ·obtain rfl:at_=s.size:=by omega
   have HT:=zH (j0 R s st st W hs hrW)
   rw[List.drop_eq_nil_of_le (by rw[bR];omega),yD]
   show Calls _ _ _ _ (cM R w)
   clear hr hrW ih
   go_enter Tryz.func168,Tryz.ntmps168
   go_wp2_with fail
   rw[HW.out]
   refine HT.out.mono ?_
   rintro e w1 ⟨v,rfl,hg⟩
   exact⟨rfl,v,rfl,HGW.out.trans hg⟩
theorem bF.drewN{t:Int}{w:World}{lo:Nat}{x:Ld}{v:Value}(h:bF t w lo x v)(n:Nat):bF t (w.drewN n) lo x v:=h.keep (Nat.le_refl _) fun _ _ _=>rfl
theorem rA(p q:Addr)(v0 v1:Value)(u:TypeId)(pv:Value)(w:World)(h0:w.cell? p=some v0)(h1:w.cell? q=some v1)(f0:w.frozen? p=false)(f1:w.frozen? q=false)(hne:p.block≠q.block):
  CallsD Tryz.prog 167 #[.pointer (some p),.pointer (some q)] (.panicking [{v:= .iface u pv,recovered:=false}]) w fun e u' w' =>
   e= .returned (.tuple #[])∧u' = .panicking [{v:= .iface u pv,recovered:=true}]∧w' =(w.setCell p .nilFunc).setCell q (.bool false):=by
 refine callsD_of_wpS Tryz.func167 rfl fun c₀ cs hu=> ?_
 apply wpS_seq
 apply wpS_region
 simp[wpOpsS,go_sem,recoverD,hu,Tryz.ntmps167,Exit.thenS]
 refine wpS_cond (t:=true) (by simp[Act.eval,Array.replicate]) ?_
 simp only[if_true]
 apply wpS_region
 have h2:(w.setCell p .nilFunc).cell? q=some v1:=(World.cell?_setCell_far w p q _ hne).trans h1
 have f2:(w.setCell p .nilFunc).frozen? q=false:=by rw[World.frozen?_setCell];exact f1
 simp[wpOpsS,go_sem,h0,f0,h2,f2,bodyPostS,results,Tryz.results167]
theorem IR(p q:Addr)(w:World):
  CallsD Tryz.prog 167 #[.pointer (some p),.pointer (some q)] .returning w fun e u' w' =>e= .returned (.tuple #[])∧u' = .returning∧w' =w:=by
 refine callsD_of_wpS Tryz.func167 rfl fun c₀ cs hu=> ?_
 apply wpS_seq
 apply wpS_region
 simp[wpOpsS,go_sem,recoverD,hu,Tryz.ntmps167,Exit.thenS]
 refine wpS_cond (t:=false) (by simp[Act.eval,Array.replicate]) ?_
 simp only[Bool.false_eq_true,if_false]
 refine wpS_of_wp (wp_skip ?_)
 cases c₀
 simp_all [bodyPostS,results,Tryz.results167]
def oG:Value:= .tuple #[.agg #[.nilFunc],.bool false]
theorem IM(t:Int)(s:ByteArray)(w:World)(h:t<1∨3<t∨60<s.size)(hs:s.size≤9223372036854775807):
  Calls Tryz.prog 149 #[.int .i64 t,.string s] w fun e w' =>e= .returned oG∧Below w.heap.size w w' :=by
 have x0:=Boxed.new w 170 .nilFunc
 have x1:=Boxed.new (w.alloc (.cells #[.nilFunc] 170)) 4 (.bool false)
 rw[World.size_alloc] at x1
 have hc0:=(x0.alloc (.cells #[.bool false] 4)).cell
 have hc1:=x1.cell
 have HB:Hid (Below w.heap.size w ((w.alloc (.cells #[.nilFunc] 170)).alloc (.cells #[.bool false] 4))):=((Below.refl _ _).alloc (Nat.le_refl _) _).alloc (by simp) _
 clear x0 x1
 obtain⟨n,HN⟩:∃n,Hid (eP t=n):=⟨_,rfl⟩
 by_cases h1:t<1∨3<t
 ·have hd:decide (n<0)=true:=decide_eq_true (by rw[←HN.out,mO h1];omega)
  clear h h1
  go_enter_defers Tryz.func149,Tryz.ntmps149
  go_wp2_with (go_at_call 58;refine(eE _ _).mono ?_;rintro e w' ⟨rfl,rfl⟩;rw[HN.out])
  exact⟨oG,by simp[results,Tryz.results149,go_sem,hc0,hc1,oG],rfl,HB.out⟩
 ·have hd:decide (n<0)=false:=decide_eq_false (by rw[←HN.out,(lI (t:=t) (by omega) (by omega)).1];omega)
  have hd2:decide ((60:Int)<(s.size:Int))=true:=decide_eq_true (by omega)
  clear h h1
  go_enter_defers Tryz.func149,Tryz.ntmps149
  go_wp2_with (go_at_call 58;refine(eE _ _).mono ?_;rintro e w' ⟨rfl,rfl⟩;rw[HN.out])
  exact⟨oG,by simp[results,Tryz.results149,go_sem,hc0,hc1,oG],rfl,HB.out⟩
def l5(n:Nat):ByteArray:=⟨#[48,49,33,91,40]⟩++(⟨#[97,98,99]⟩:ByteArray).extract 0 n
theorem ME(n:Nat)(h1:1≤n)(h3:n≤3):R8 n (l5 n):=by
 intro c
 have e:∀k:UInt8,c=k↔c.toNat=k.toNat:=fun k=>UInt8.toNat_inj.symm
 have hl:(l5 n).data.toList=[48,49,33,91,40]++[97,98,99].take n:=by
  have:n=1∨n=2∨n=3:=by omega
  rcases this with rfl|rfl|rfl<;>rfl
 rw[hl,Bool.eq_iff_iff]
 unfold mI
 have:n=1∨n=2∨n=3:=by omega
 rcases this with rfl|rfl|rfl<;>simp[e]<;>omega
theorem NI{t:Int}{l:List Nat}(h1:1≤t)(h3:t≤3)(hl:l.length≤60)(h:bJ t l.length l=none):mD t l=none:=by
 unfold mD;rw[if_pos ⟨h1,h3,hl⟩,h]
theorem NZ{t:Int}{l:List Nat}{x:Ld}{c:Nat}{r:List Nat}(h1:1≤t)(h3:t≤3)(hl:l.length≤60)(h:bJ t l.length l=some (x,c::r)):mD t l=none:=by
 unfold mD;rw[if_pos ⟨h1,h3,hl⟩,h]
theorem NE{t:Int}{l:List Nat}{x:Ld}(h1:1≤t)(h3:t≤3)(hl:l.length≤60)(h:bJ t l.length l=some (x,[])):mD t l=some x:=by
 unfold mD;rw[if_pos ⟨h1,h3,hl⟩,h]
def jZ(t:Int)(s:ByteArray)(w:World)(e:Ending)(w' :World):Prop:=
 match mD t (aG s) with
 |some x=>∃v,e= .returned (.tuple #[.agg #[v],.bool true])∧bF t w' w.heap.size x v∧Below w.heap.size w w'
 |none=>e= .returned oG∧Below w.heap.size w w'
theorem jZ.of_none{t:Int}{s:ByteArray}{w:World}{e:Ending}{w' :World}(h:mD t (aG s)=none)(he:e= .returned oG)(hb:Below w.heap.size w w'):jZ t s w e w' :=by
 unfold jZ;rw[h];exact⟨he,hb⟩
theorem jZ.of_some{t:Int}{s:ByteArray}{w:World}{e:Ending}{w' :World}{x:Ld}(h:mD t (aG s)=some x){v:Value}(he:e= .returned (.tuple #[.agg #[v],.bool true]))(hn:bF t w' w.heap.size x v)(hb:Below w.heap.size w w'):jZ t s w e w' :=by
 unfold jZ;rw[h];exact⟨v,he,hn,hb⟩
theorem K1(n:Nat)(s:ByteArray)(w:World)(h1:1≤n)(h3:n≤3)(hs:s.size≤60):
  Calls Tryz.prog 149 #[.int .i64 n,.string s] w (jZ n s w):=by
 have hmf:∀(fn:Fn) (first cap:Array Value) (w:World),(Instr.makeFunc fn first cap).run Tryz.prog w= .ok (.func fn first cap) w:=fun _ _ _ _=>rfl
 have hd:decide ((60:Int)<(s.size:Int))=false:=decide_eq_false (by omega)
 obtain⟨m,HN⟩:∃m,Hid (eP n=m):=⟨_,rfl⟩
 have hd2:decide (m<0)=false:=decide_eq_false (by rw[←HN.out,(lI (t:=n) (by omega) (by omega)).1];omega)
 go_enter_defers Tryz.func149,Tryz.ntmps149
 go_wp2_with (go_at_call 58;refine(eE _ _).mono ?_;rintro e w' ⟨rfl,rfl⟩;rw[HN.out])
 obtain⟨W,hW⟩:∃W,((w.alloc (.cells #[.nilFunc] 170)).alloc (.cells #[.bool false] 4)).alloc (.cells #[.string s,.int .i64 0,.string (⟨#[48,49,33,91,40]⟩++(⟨#[97,98,99]⟩:ByteArray).extract 0 n)] 174)=W:=⟨_,rfl⟩
 have x0:Boxed W w.heap.size 170 .nilFunc:=by rw[←hW];exact((Boxed.new w 170 .nilFunc).alloc _).alloc _
 have x1:Boxed W (w.heap.size+1) 4 (.bool false):=by
  rw[←hW];have:=Boxed.new (w.alloc (.cells #[.nilFunc] 170)) 4 (.bool false);rw[World.size_alloc] at this;exact this.alloc _
 have hr:bT W (w.heap.size+1+1) s 0 (l5 n):=by
  rw[←hW];have:=World.alloc_heap_new ((w.alloc (.cells #[.nilFunc] 170)).alloc (.cells #[.bool false] 4)) (.cells #[.string s,.int .i64 0,.string (l5 n)] 174);simp only[World.size_alloc] at this;exact this
 have hB:Below w.heap.size w W:=by rw[←hW];exact(((Below.refl _ _).alloc (Nat.le_refl _) _).alloc (by simp) _).alloc (by simp;omega) _
 have hsz:w.heap.size+3≤W.heap.size:=by rw[←hW];simp
 rw[hW]
 clear hW
 have hread:=SS n (w.heap.size+1+1) s (l5 n) (by omega) (by omega) (by omega) (ME n h1 h3) s.size 0 W hr (by omega) (by omega)
 rw[List.drop_zero] at hread
 have HB:=zH hB
 have X0:=zH x0
 have X1:=zH x1
 have hlen:(aG s).length=s.size:=bR s
 have hln:∀o,bJ n s.size (aG s)=o→bJ n (aG s).length (aG s)=o:=fun o h=>by rw[hlen];exact h
 clear x0 x1 hB hr
 rcases hrd:bJ n s.size (aG s) with _|⟨x,rest⟩
 ·rw[hrd] at hread
  have HI:Hid (Calls Tryz.prog 168 #[.pointer (some ⟨w.heap.size+1+1,0,none⟩),.int .i64 n] W (cM (w.heap.size+1+1) W)):=hread
  have HE:=zH (NI (t:=n) (by omega) (by omega) (by rw[hlen];exact hs) (hln _ hrd))
  clear hread hrd hln hlen
  refine HI.out.mono ?_
  rintro e w1 ⟨v,rfl,hg⟩
  have y0:Boxed w1 w.heap.size 170 .nilFunc:=X0.out.kept hg (fun e=>by have:=Option.some.inj e;omega)
  have y1:Boxed w1 (w.heap.size+1) 4 (.bool false):=X1.out.kept hg (fun e=>by have:=Option.some.inj e;omega)
  refine leaves_cons (f:=167) (args:= #[.pointer (some ⟨w.heap.size,0,none⟩),.pointer (some ⟨w.heap.size+1,0,none⟩)]) (by simp) (by simp[go_sem]) ?_
  refine(rA ⟨w.heap.size,0,none⟩ ⟨w.heap.size+1,0,none⟩ _ _ _ _ _ y0.cell y1.cell y0.frozen y1.frozen (by simp)).mono ?_
  rintro e u' w'' ⟨rfl,rfl,rfl⟩
  have z0:=(gW (y0.set .nilFunc) (.bool false) (C:=w.heap.size+1) (by omega)).cell
  have z1:=((gW y1 .nilFunc (C:=w.heap.size) (by omega)).set (.bool false)).cell
  have HP:=zH (jZ.of_none HE.out rfl (pC (u0:= .nilFunc) (u1:= .bool false) HB.out hg))
  simp[Leaves,settle,results,Tryz.results149,go_sem,z0,z1]
  exact HP.out
 ·rw[hrd] at hread
  have HI:Hid (Calls Tryz.prog 168 #[.pointer (some ⟨w.heap.size+1+1,0,none⟩),.int .i64 n] W (g6 n (w.heap.size+1+1) s (l5 n) x rest W)):=hread
  have HRD:=zH (hln _ hrd)
  have HLN:=zH hlen
  clear hread hrd hln hlen
  refine HI.out.mono ?_
  rintro e w1 ⟨p,a1,rfl,ha1,hda,hr1,hn1,hg⟩
  obtain⟨g1,cap1,rfl⟩:=hn1.form
  have y0:Boxed w1 w.heap.size 170 .nilFunc:=X0.out.kept hg (fun e=>by have:=Option.some.inj e;omega)
  have y1:Boxed w1 (w.heap.size+1) 4 (.bool false):=X1.out.kept hg (fun e=>by have:=Option.some.inj e;omega)
  have hc0:=y0.cell
  have hf0:=y0.frozen
  rcases rest with _|⟨c,r⟩
  ·have HE:=zH (NE (t:=n) (by omega) (by omega) (by rw[HLN.out];exact hs) HRD.out)
   obtain rfl:=eH hda ha1
   have hr2:bT (w1.setCell ⟨w.heap.size,0,none⟩ (.func (.func g1) #[] cap1)) (w.heap.size+1+1) s s.size (l5 n):=(Below.heap_setCell _ _ _ _ (by show w.heap.size+1+1≠w.heap.size;omega)).trans hr1
   have HT:=zH (JD _ s (l5 n) _ (by omega) hr2)
   have HG:=zH hg
   have Y0:=zH (y0.set (.func (.func g1) #[] cap1))
   have Y1:=zH (gW y1 (.func (.func g1) #[] cap1) (C:=w.heap.size) (by omega))
   have HN:=zH hn1
   clear hda hr1 hn1 hg y0 y1 hr2
   go_wp2_with fail
   refine HT.out.mono ?_
   rintro e w2 ⟨rfl,q,rfl⟩
   clear hc0 hf0
   have hc0:=Y0.out.cell
   have hf0:=Y0.out.frozen
   have hc1:=Y1.out.cell
   have hf1:=Y1.out.frozen
   go_wp2_with fail
   refine leaves_cons (f:=167) (args:= #[.pointer (some ⟨w.heap.size,0,none⟩),.pointer (some ⟨w.heap.size+1,0,none⟩)]) (by simp) (by simp[go_sem]) ?_
   refine(IR ⟨w.heap.size,0,none⟩ ⟨w.heap.size+1,0,none⟩ _).mono ?_
   rintro e u' w'' ⟨rfl,rfl,rfl⟩
   have Y0q:Boxed ((w1.setCell ⟨w.heap.size,0,none⟩ (.func (.func g1) #[] cap1)).drewN q) w.heap.size 170 (.func (.func g1) #[] cap1):=Y0.out
   have Y1q:Boxed ((w1.setCell ⟨w.heap.size,0,none⟩ (.func (.func g1) #[] cap1)).drewN q) (w.heap.size+1) 4 (.bool false):=Y1.out
   have z0:=(gW (Y0q.set (.func (.func g1) #[] cap1)) (.bool true) (C:=w.heap.size+1) (by omega)).cell
   have z1:=((gW Y1q (.func (.func g1) #[] cap1) (C:=w.heap.size) (by omega)).set (.bool true)).cell
   have hsn:bF n ((((w1.setCell ⟨w.heap.size,0,none⟩ (.func (.func g1) #[] cap1)).drewN q).setCell ⟨w.heap.size,0,none⟩ (.func (.func g1) #[] cap1)).setCell ⟨w.heap.size+1,0,none⟩ (.bool true)) w.heap.size x (.func (.func g1) #[] cap1):=
    bF.low (lo:=W.heap.size) (by omega) ((((bF.set HN.out (by omega) _).drewN _).set (by omega) _).set (by omega) _)
   have hbl:Below w.heap.size w ((((w1.setCell ⟨w.heap.size,0,none⟩ (.func (.func g1) #[] cap1)).drewN q).setCell ⟨w.heap.size,0,none⟩ (.func (.func g1) #[] cap1)).setCell ⟨w.heap.size+1,0,none⟩ (.bool true)):=
    ((aE ((HB.out.grown HG.out HB.out.size (fun k e=>by have:=Option.some.inj e;omega)).setCell (p:=⟨w.heap.size,0,none⟩) (Nat.le_refl _) _) q).setCell (p:=⟨w.heap.size,0,none⟩) (Nat.le_refl _) _).setCell (p:=⟨w.heap.size+1,0,none⟩) (by show w.heap.size≤w.heap.size+1;omega) _
   have HP:=zH (jZ.of_some HE.out rfl hsn hbl)
   simp[Leaves,settle,results,Tryz.results149,go_sem,z0,z1]
   exact HP.out
  ·have HE:=zH (NZ (t:=n) (by omega) (by omega) (by rw[HLN.out];exact hs) HRD.out)
   obtain⟨hlt,_,_⟩:=aW hda
   have hr2:bT (w1.setCell ⟨w.heap.size,0,none⟩ (.func (.func g1) #[] cap1)) (w.heap.size+1+1) s a1 (l5 n):=(Below.heap_setCell _ _ _ _ (by show w.heap.size+1+1≠w.heap.size;omega)).trans hr1
   have HT:=zH (FV _ s (l5 n) a1 _ (by omega) hlt hr2)
   have HG:=zH hg
   have Y0:=zH (y0.set (.func (.func g1) #[] cap1))
   have Y1:=zH (gW y1 (.func (.func g1) #[] cap1) (C:=w.heap.size) (by omega))
   clear hda hr1 hn1 hg y0 y1 hr2
   go_wp2_with fail
   refine HT.out.mono ?_
   rintro e w2 ⟨v,rfl,hg2⟩
   have y0:Boxed w2 w.heap.size 170 (.func (.func g1) #[] cap1):=Boxed.kept Y0.out hg2 (fun e=>by have:=Option.some.inj e;omega)
   have y1:Boxed w2 (w.heap.size+1) 4 (.bool false):=Boxed.kept Y1.out hg2 (fun e=>by have:=Option.some.inj e;omega)
   refine leaves_cons (f:=167) (args:= #[.pointer (some ⟨w.heap.size,0,none⟩),.pointer (some ⟨w.heap.size+1,0,none⟩)]) (by simp) (by simp[go_sem]) ?_
   refine(rA ⟨w.heap.size,0,none⟩ ⟨w.heap.size+1,0,none⟩ _ _ _ _ _ y0.cell y1.cell y0.frozen y1.frozen (by simp)).mono ?_
   rintro e u' w'' ⟨rfl,rfl,rfl⟩
   have z0:=(gW (y0.set .nilFunc) (.bool false) (C:=w.heap.size+1) (by omega)).cell
   have z1:=((gW y1 .nilFunc (C:=w.heap.size) (by omega)).set (.bool false)).cell
   have hb1:Below w.heap.size w (w1.setCell ⟨w.heap.size,0,none⟩ (.func (.func g1) #[] cap1)):=(HB.out.grown HG.out HB.out.size (fun k e=>by have:=Option.some.inj e;omega)).setCell (p:=⟨w.heap.size,0,none⟩) (Nat.le_refl _) _
   have HP:=zH (jZ.of_none HE.out rfl (pC (u0:= .nilFunc) (u1:= .bool false) hb1 hg2))
   simp[Leaves,settle,results,Tryz.results149,go_sem,z0,z1]
   exact HP.out
theorem KC(t:Int)(s:ByteArray)(w:World)(hs:s.size≤9223372036854775807):Calls Tryz.prog 149 #[.int .i64 t,.string s] w (jZ t s w):=by
 by_cases h:t<1∨3<t∨60<s.size
 ·refine(IM t s w h hs).mono ?_
  rintro e w' ⟨he,hb⟩
  exact jZ.of_none (by unfold mD;rw[if_neg (by rw[bR];omega)]) he hb
 ·obtain⟨n,rfl⟩:∃n:Nat,t=n:=⟨t.toNat,by omega⟩
  exact K1 n s w (by omega) (by omega) (by omega)
theorem yK{t:Int}{s:ByteArray}(h:Hid (rZ t s=none))(w:World)(hs:s.size≤9223372036854775807):
  Calls Tryz.prog 149 #[.int .i64 t,.string s] w fun e w' =>e= .returned (.tuple #[.agg #[.nilFunc],.bool false])∧Below w.heap.size w w' :=by
 refine(KC t s w hs).mono ?_
 intro e w' hp
 unfold jZ at hp
 rw[show mD t (aG s)=none from h.out] at hp
 exact hp
theorem pU{t:Int}{s:ByteArray}{x:Ld}(h:Hid (rZ t s=some x))(w:World)(hs:s.size≤9223372036854775807):
  Calls Tryz.prog 149 #[.int .i64 t,.string s] w fun e w' =>∃v,e= .returned (.tuple #[.agg #[v],.bool true])∧bF t w' w.heap.size x v∧Below w.heap.size w w' :=by
 refine(KC t s w hs).mono ?_
 intro e w' hp
 unfold jZ at hp
 rw[show mD t (aG s)=some x from h.out] at hp
 exact hp
theorem M1(t:Int)(s:ByteArray)(w:World)(hs:s.size≤9223372036854775807):
  Calls Tryz.prog 137 #[.int .i64 t,.string s] w fun e w' =>e= .returned (.bool (cY t s))∧Below w.heap.size w w' :=by
 rcases hx:rZ t s with _|x
 ·have HX:=zH hx
  rw[show cY t s=false by unfold cY;rw[hx];rfl]
  clear hx
  go_enter Tryz.func137,Tryz.ntmps137
  go_wp2_with fail
  refine(yK HX _ hs).mono ?_
  rintro e w1 ⟨rfl,hb⟩
  have HB:=zH (hb.alloc hb.size (.cells #[.nilFunc] 170))
  clear hb
  go_wp2_with fail
  go_ret
  exact⟨rfl,HB.out⟩
 ·have HX:=zH hx
  rw[show cY t s=true by unfold cY;rw[hx];rfl]
  clear hx
  go_enter Tryz.func137,Tryz.ntmps137
  go_wp2_with fail
  refine(pU HX _ hs).mono ?_
  rintro e w1 ⟨v,rfl,hn,hb⟩
  obtain⟨g,cap,rfl⟩:=hn.form
  have HB:=zH (hb.alloc hb.size (.cells #[.func (.func g) #[] cap] 170))
  clear hb hn
  go_wp2_with fail
  go_ret
  exact⟨rfl,HB.out⟩
def gK(o:Option Int)(w:World)(e:Ending)(w' :World):Prop:=e= .returned (.tuple #[.int .i64 (o.getD (-1)),.bool o.isSome])∧Below w.heap.size w w'
theorem gK.no{o:Option Int}(h:o=none){w w' :World}(hb:Below w.heap.size w w'):gK o w (.returned (.tuple #[.int .i64 (-1),.bool false])) w' :=by subst h;exact⟨rfl,hb⟩
theorem gK.yes{o:Option Int}{u:Int}(h:o=some u){w w' :World}(hb:Below w.heap.size w w'):gK o w (.returned (.tuple #[.int .i64 u,.bool true])) w' :=by subst h;exact⟨rfl,hb⟩
theorem LS(t k:Int)(s:ByteArray)(w:World)(hs:s.size≤9223372036854775807):
  Calls Tryz.prog 136 #[.int .i64 t,.int .i64 k,.string s] w (gK (eJ t k s) w):=by
 rcases hx:rZ t s with _|x
 ·have HX:=zH hx
  have HC:Hid (eJ t k s=none):=by unfold Hid eJ;rw[hx]
  clear hx
  go_enter Tryz.func136,Tryz.ntmps136
  go_wp2_with fail
  refine(yK HX _ hs).mono ?_
  rintro e w1 ⟨rfl,hb⟩
  have HB:=zH (hb.alloc hb.size (.cells #[.nilFunc] 170))
  clear hb
  go_wp2_with fail
  go_ret2
  exact gK.no HC.out HB.out
 ·have HX:=zH hx
  rcases hset:aO t k with _|_
  ·have HS:=zH hset
   have HC:Hid (eJ t k s=none):=by unfold Hid eJ;rw[hx];simp only;rw[hset];rfl
   clear hset hx
   go_enter Tryz.func136,Tryz.ntmps136
   go_wp2_with fail
   refine(pU HX _ hs).mono ?_
   rintro e w1 ⟨v,rfl,hn,hb⟩
   obtain⟨g,cap,rfl⟩:=hn.form
   have HB:=zH (hb.alloc hb.size (.cells #[.func (.func g) #[] cap] 170))
   clear hb hn
   go_wp2_with (go_at_call 104;refine(gX HS _).mono ?_;rintro e w' ⟨rfl,rfl⟩)
   go_ret2
   exact gK.no HC.out HB.out
  ·have HS:=zH hset
   obtain⟨_,_,hk0,hka,_⟩:=aZ hset
   have HC:Hid (eJ t k s=aT t x k):=by unfold Hid eJ;rw[hx];simp only;rw[hset];rfl
   rw[HC.out]
   clear hset hx
   rcases hc:aT t x k with _|u
   ·go_enter Tryz.func136,Tryz.ntmps136
    go_wp2_with fail
    refine(pU HX _ hs).mono ?_
    rintro e w1 ⟨v,rfl,hn,hb⟩
    have hrun:=(hn.below ((Below.refl _ _).alloc (Nat.le_refl _) (.cells #[v] 170))).runs
    obtain⟨g,cap,rfl,hg,hcall⟩:=hrun
    have hg:∀(args:Array Value) (w:World),(callFunc g args).run Tryz.prog w= .ok (.enter g args) w:=hg
    have HCALL:=zH (sU hc (hcall k hk0 hka))
    have HB:=zH (hb.alloc hb.size (.cells #[.func (.func g) #[] cap] 170))
    have hcell:=(Boxed.new w1 170 (.func (.func g) #[] cap)).cell
    clear hb hn hcall
    go_wp2_with (first
     |(go_at_call 104;refine(gX HS _).mono ?_;rintro e w' ⟨rfl,rfl⟩)
     |(go_at_fn g;refine HCALL.out.mono ?_;clear HCALL;rintro e w' ⟨⟨u,rfl⟩,rfl⟩))
    go_ret2
    exact gK.no rfl HB.out
   ·go_enter Tryz.func136,Tryz.ntmps136
    go_wp2_with fail
    refine(pU HX _ hs).mono ?_
    rintro e w1 ⟨v,rfl,hn,hb⟩
    have hrun:=(hn.below ((Below.refl _ _).alloc (Nat.le_refl _) (.cells #[v] 170))).runs
    obtain⟨g,cap,rfl,hg,hcall⟩:=hrun
    have hg:∀(args:Array Value) (w:World),(callFunc g args).run Tryz.prog w= .ok (.enter g args) w:=hg
    have HCALL:=zH (qW hc (hcall k hk0 hka))
    have HB:=zH (hb.alloc hb.size (.cells #[.func (.func g) #[] cap] 170))
    have hcell:=(Boxed.new w1 170 (.func (.func g) #[] cap)).cell
    clear hb hn hcall
    go_wp2_with (first
     |(go_at_call 104;refine(gX HS _).mono ?_;rintro e w' ⟨rfl,rfl⟩)
     |(go_at_fn g;refine HCALL.out.mono ?_;clear HCALL;rintro e w' ⟨rfl,rfl⟩))
    go_ret2
    exact gK.yes rfl HB.out
structure Dd where
 kind:Int
 text:List UInt8
 deriving DecidableEq
def i1:List UInt8:=[116,101,108,108,32]
def lH:List UInt8:=[97,115,107,32]
def uJ:List UInt8:=[98,97,99,107]
def kX(c:UInt8):Bool:=decide (32≤c)&&decide (c≤126)
def dC(l:List UInt8):Bool:= !l.isEmpty&&l.all kX
def eV(d:Dd):List UInt8:=
 if d.kind=0∧dC d.text=true then i1++d.text
 else if d.kind=1∧dC d.text=true then lH++d.text
 else if d=⟨2,[]⟩ then uJ else[]
def oY(l:List UInt8):Option Dd:=
 if l=uJ then some ⟨2,[]⟩
 else if l.take 5=i1∧dC (l.drop 5)=true then some ⟨0,l.drop 5⟩
 else if l.take 4=lH∧dC (l.drop 4)=true then some ⟨1,l.drop 4⟩
 else none
theorem DS{d:Dd}(h:eV d≠[]):oY (eV d)=some d:=by
 obtain⟨k,x⟩:=d
 unfold eV at h⊢
 by_cases h0:k=0∧dC x=true
 ·rw[if_pos h0]
  unfold oY
  rw[if_neg (by simp[i1,uJ]),if_pos ⟨by simp[i1],by simpa [i1] using h0.2⟩]
  simp[i1,h0.1]
 ·rw[if_neg h0] at h⊢
  by_cases h1:k=1∧dC x=true
  ·rw[if_pos h1]
   unfold oY
   rw[if_neg (by simp[lH,uJ]),if_neg (by simp[lH,i1]),if_pos ⟨by simp[lH],by simpa [lH] using h1.2⟩]
   simp[lH,h1.1]
  ·rw[if_neg h1] at h⊢
   by_cases h2:(⟨k,x⟩:Dd)=⟨2,[]⟩
   ·rw[if_pos h2,h2]
    rfl
   ·rw[if_neg h2] at h
    exact absurd rfl h
theorem OK{l:List UInt8}{d:Dd}(h:oY l=some d):eV d=l∧l≠[]:=by
 unfold oY at h
 split at h
 ·rename_i e
  cases h;subst e;exact⟨rfl,by decide⟩
 split at h
 ·rename_i e
  cases h
  have:l=i1++l.drop 5:=by rw[←e.1,List.take_append_drop]
  refine⟨?_,fun hn=>by rw[hn] at e;simp[i1] at e⟩
  unfold eV
  rw[if_pos ⟨rfl,e.2⟩]
  exact this.symm
 split at h
 ·rename_i e
  cases h
  have:l=lH++l.drop 4:=by rw[←e.1,List.take_append_drop]
  refine⟨?_,fun hn=>by rw[hn] at e;simp[lH] at e⟩
  unfold eV
  rw[if_neg (by simp),if_pos ⟨rfl,e.2⟩]
  exact this.symm
 ·cases h
end Go.Proofs.YtfhjcacfchkdpaaGreatDoor
