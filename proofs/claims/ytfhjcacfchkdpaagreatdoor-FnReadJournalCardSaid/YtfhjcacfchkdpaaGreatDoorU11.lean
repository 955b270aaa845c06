/-
  What the proofs of this seat's statements share (Imp, Srd, Sre, Srf, Srg).
-/
import Derived.Lib.IndexAny
import Derived.Test.YtfhjcacfchkdpaaGreatDoorU10
set_option maxRecDepth 100000
set_option maxHeartbeats 32000000
namespace Go.Proofs.YtfhjcacfchkdpaaGreatDoor
open Go.RowKit
def fC(t:Int)(s:ByteArray):Option bD:=kT t (aG s)
def gM(t:Int)(s:ByteArray):List Int:=match fC t s with|some x=>bE t x|none=>[]
def fY(t:Int)(s:ByteArray):Bool:=(fC t s).isSome
def jE(t k:Int)(s:ByteArray):Bool:=match fC t s with|some x=>aO t k&&aN t x k|none=>false
def dO(t:Int)(s:ByteArray):Int:=match fC t s with|some x=>(dW t x (aP t):Int)|none=> -1
theorem jQ{t:Int}{s:ByteArray}{x:bD}(h:fC t s=some x):1≤t∧t≤3∧s.size≤60∧eI t x=true∧aG s=cA x:=by
 have:=MW.1 h
 rwa [bR] at this
theorem AX{t:Int}{s:ByteArray}(h:Hid (fC t s=none))(w:World)(hs:s.size≤9223372036854775807):
  Calls Tryz.prog 138 #[.int .i64 t,.string s] w fun e w' =>e= .returned (.tuple #[.pointer none,.bool false])∧Below w.heap.size w w' :=by
 refine(OC t s w hs).mono ?_
 intro e w' hp
 unfold gQ at hp
 rw[show kT t (aG s)=none from h.out] at hp
 exact hp
theorem BB{t:Int}{s:ByteArray}{x:bD}(h:Hid (fC t s=some x))(w:World)(hs:s.size≤9223372036854775807):
  Calls Tryz.prog 138 #[.int .i64 t,.string s] w fun e w' =>∃p,e= .returned (.tuple #[.pointer p,.bool true])∧bO w' w.heap.size x p∧Below w.heap.size w w' :=by
 refine(OC t s w hs).mono ?_
 intro e w' hp
 unfold gQ at hp
 rw[show kT t (aG s)=some x from h.out] at hp
 exact hp
def x9(l:List Int)(b:Bool)(w:World)(e:Ending)(w' :World):Prop:=∃v,e= .returned (.tuple #[v,.bool b])∧aS w' w.heap.size v l∧Below w.heap.size w w'
theorem sK{t:Int}{s:ByteArray}(h:fC t s=none):gM t s=[]∧fY t s=false:=by unfold gM fY;rw[h];exact⟨rfl,rfl⟩
theorem kM{t:Int}{s:ByteArray}{x:bD}(h:fC t s=some x):gM t s=bE t x∧fY t s=true:=by unfold gM fY;rw[h];exact⟨rfl,rfl⟩
theorem PP(t:Int)(s:ByteArray)(w:World)(hs:s.size≤9223372036854775807):
  Calls Tryz.prog 117 #[.int .i64 t,.string s] w (x9 (gM t s) (fY t s) w):=by
 rcases hx:fC t s with _|x
 ·have HX:=zH hx
  obtain⟨e1,e2⟩:=sK hx
  rw[e1,e2]
  clear hx e1 e2
  go_enter Tryz.func117,Tryz.ntmps117
  go_wp2_with fail
  refine(AX HX _ hs).mono ?_
  rintro e w1 ⟨rfl,hb⟩
  have HB:=zH hb
  clear hb
  go_wp2_with fail
  go_ret2
  exact⟨_,rfl,aS.nil _ _,HB.out⟩
 ·have HX:=zH hx
  obtain⟨h1,h3,_,hok,_⟩:=jQ hx
  obtain⟨e1,e2⟩:=kM hx
  rw[e1,e2]
  clear hx e1 e2
  go_enter Tryz.func117,Tryz.ntmps117
  go_wp2_with fail
  refine(BB HX _ hs).mono ?_
  rintro e w1 ⟨p,rfl,hn,hb⟩
  have HI:=zH (nE t h1 h3 x p _ _ hok hn)
  have HB:=zH hb
  clear hb hn
  go_wp2_with fail
  refine HI.out.mono ?_
  rintro e w2 ⟨v,rfl,ho,hb⟩
  have HO:=zH (ho.base HB.out.size)
  have HB2:=zH (aA HB.out hb)
  clear ho hb
  go_wp2_with fail
  go_ret2
  exact⟨_,rfl,HO.out,HB2.out⟩
theorem oP(t:Int)(x:bD):∀k,k≤8→dW t x k<2^k
 |0,_=>by simp[dW]
 |k+1,h=>by
  have:=oP t x k (by omega)
  unfold dW
  rw[Nat.pow_succ]
  split<;>omega
theorem TS{t:Int}{x:bD}{k:Nat}(hk:k≤7)(h:aN t x (bZ k)=true):dW t x k ||| 2^k=dW t x (k+1):=by
 have:=oP t x k (by omega)
 conv=>rhs;unfold dW
 have e:=Nat.two_pow_add_eq_or_of_lt this 1
 rw[Nat.mul_one] at e
 rw[if_pos h,Nat.or_comm,←e,Nat.add_comm]
theorem rY{t:Int}{x:bD}{k:Nat}(h:aN t x (bZ k)=false):dW t x k=dW t x (k+1):=by
 conv=>rhs;unfold dW
 rw[if_neg (by rw[h];decide)];rfl
theorem JE(t:Int)(s:ByteArray)(w:World)(hs:s.size≤9223372036854775807):
  Calls Tryz.prog 115 #[.int .i64 t,.string s] w fun e w' =>e= .returned (.int .i64 (dO t s))∧Below w.heap.size w w' :=by
 rcases hx:fC t s with _|x
 ·have HX:=zH hx
  rw[show dO t s= -1 by unfold dO;rw[hx]]
  clear hx
  go_enter Tryz.func115,Tryz.ntmps115
  go_wp2_with fail
  refine(AX HX _ hs).mono ?_
  rintro e w1 ⟨rfl,hb⟩
  have HB:=zH hb
  clear hb
  go_wp2_with fail
  go_ret
  exact⟨rfl,HB.out⟩
 ·have HX:=zH hx
  obtain⟨h1,h3,_,hok,_⟩:=jQ hx
  rw[show dO t s=(dW t x (aP t):Int) by unfold dO;rw[hx]]
  obtain⟨hw,hw8⟩:=lI h1 h3
  have HW:=zH hw
  clear hx hw
  go_enter Tryz.func115,Tryz.ntmps115
  go_wp2_with fail
  refine(BB HX _ hs).mono ?_
  rintro e w1 ⟨p,rfl,hn,hb⟩
  have HN:=zH hn
  have HB:=zH hb
  clear hb hn
  go_wp2_with (go_at_call 58;refine(eE _ _).mono ?_;rintro e w' ⟨rfl,rfl⟩)
  rw[HW.out]
  obtain⟨n,HNW⟩:∃n,Hid (aP t=n):=⟨_,rfl⟩
  rw[HNW.out] at hw8⊢
  go_loopw [7,19] (fun v i wr=>∃k:Nat,k≤n∧i= .int .i64 k∧v= .int .i64 (dW t x k)∧Below w1.heap.size w1 wr) (fun _ i _=>n-(Go.RowKit.intOf i).toNat)
  case atStart=>exact⟨0,Nat.zero_le _,rfl,rfl,Below.refl _ _⟩
  case round=>
   obtain⟨k,hk,rfl,rfl,hbr⟩:=hrel
   have HBR:=zH hbr
   clear hbr
   by_cases hlt:k<n
   ·have hall:bZ k≤aJ t:=(iS h1 h3 (by rw[HNW.out];exact hlt)).2
    have HI:Hid (Calls Tryz.prog 139 #[.int .i64 t,.int .i64 ((2^k:Nat):Int),.pointer p] wr fun e w' =>e= .returned (.bool (aN t x (bZ k)))∧Below wr.heap.size wr w'):=
     M6 t (2^k) h1 h3 hall x p _ _ hok (HN.out.below HBR.out)
    have h8:k=0∨k=1∨k=2∨k=3∨k=4∨k=5∨k=6∨k=7:=by omega
    have HLT:=zH hlt
    have hlti:(k:Int)<(n:Int):=by omega
    have htl:=oP t x k (by omega)
    rcases hh:aN t x (bZ k) with _|_
    ·rw[hh] at HI
     have HS:=zH (rY hh)
     clear hk hh hall hw8
     rcases h8 with rfl|rfl|rfl|rfl|rfl|rfl|rfl|rfl
     all_goals
      go_wp2_with fail
      refine HI.out.mono ?_
      rintro e w2 ⟨rfl,hb⟩
      have HB2:=zH (aA HBR.out hb)
      clear hb
      go_wp2_with fail
      refine⟨⟨_,HLT.out,rfl,by rw[HS.out],HB2.out⟩,?_⟩
      have:=HLT.out
      simp[Go.RowKit.intOf]
      omega
    ·rw[hh] at HI
     have HS:=zH (TS (by omega) hh)
     obtain⟨tv,HTV⟩:∃tv,Hid (dW t x k=tv):=⟨_,rfl⟩
     rw[HTV.out] at HS htl⊢
     clear hk hh hall hw8
     rcases h8 with rfl|rfl|rfl|rfl|rfl|rfl|rfl|rfl
     all_goals
      go_wp2_with fail
      refine HI.out.mono ?_
      rintro e w2 ⟨rfl,hb⟩
      have HB2:=zH (aA HBR.out hb)
      clear hb
      go_wp2_with fail
      rw[B0 _ _ (by omega) (by simp at htl;omega) (by omega) (by omega)]
      refine⟨⟨_,HLT.out,rfl,by rw[←HS.out];rfl,HB2.out⟩,?_⟩
      have:=HLT.out
      simp[Go.RowKit.intOf]
      omega
   ·obtain rfl:k=n:=by omega
    have HB2:=zH (aA HB.out HBR.out)
    go_wp2_with fail
    go_ret
    exact⟨jR (by rw[HNW.out]),HB2.out⟩
def jX(w:World)(e:Ending)(w' :World):Prop:=∃A n c,e= .returned (.tuple #[.slice A n c,.bool false,.int .i64 (-1)])∧Below w.heap.size w w'
def eX(t:Int)(s:ByteArray)(x:bD)(rest:List Nat)(w:World)(e:Ending)(w' :World):Prop:=
 ∃v,∃a2:Nat,e= .returned (.tuple #[v,.bool (gR x),.int .i64 a2])∧a2≤s.size∧(aG s).drop a2=rest∧aS w' w.heap.size v (bE t x)∧Below w.heap.size w w'
def WY(t:Int)(s:ByteArray)(o:Option (bD×List Nat))(w:World)(e:Ending)(w' :World):Prop:=
 match o with
 |some (x,rest)=>eX t s x rest w e w'
 |none=>jX w e w'
def GZ(t:Int)(k:Nat)(s:ByteArray):Prop:=∀(at_:Nat) (w:World),at_≤s.size→s.size-at_≤k→
 Calls Tryz.prog 100 #[.int .i64 t,.string s,.int .i64 at_] w (WY t s (bM t k ((aG s).drop at_)) w)
def R1(g at_:Nat)(w:World)(e:Ending)(w' :World):Prop:=∃v,e= .returned (.tuple #[v,.bool true,.int .i64 ((at_+1:Nat):Int)])∧aS w' w.heap.size v [(g:Int)]∧Below w.heap.size w w'
theorem pT{t:Int}{k:Nat}{s:ByteArray}(ih:GZ t k s){at_:Nat}(w:World)(hle:at_≤s.size)(hk:s.size-at_≤k)(h:bM t k ((aG s).drop at_)=none):
  Calls Tryz.prog 100 #[.int .i64 t,.string s,.int .i64 at_] w (jX w):=by
 have:=ih at_ w hle hk
 rw[h] at this;exact this
theorem mB{t:Int}{k:Nat}{s:ByteArray}(ih:GZ t k s){at_:Nat}(w:World)(hle:at_≤s.size)(hk:s.size-at_≤k){x:bD}{rest:List Nat}(h:bM t k ((aG s).drop at_)=some (x,rest)):
  Calls Tryz.prog 100 #[.int .i64 t,.string s,.int .i64 at_] w (eX t s x rest w):=by
 have:=ih at_ w hle hk
 rw[h] at this;exact this
theorem J4(t:Int)(s:ByteArray)(at_:Nat)(w:World)(_hs:s.size≤1048576)(hat:s.size≤at_):Calls Tryz.prog 100 #[.int .i64 t,.string s,.int .i64 at_] w (jX w):=by
 have hd:(s.size:Int)≤(at_:Int):=by omega
 go_enter Tryz.func100,Tryz.ntmps100
 go_wp2_with fail
 go_ret3
 exact⟨_,_,_,rfl,(Below.refl _ _).alloc (Nat.le_refl _) _⟩
theorem UC(t:Int)(s:ByteArray)(at_:Nat)(w:World)(hs:s.size≤1048576)(h1:1≤t)(h3:t≤3)(hat:at_<s.size)(hc:s[at_].toNat=49):Calls Tryz.prog 100 #[.int .i64 t,.string s,.int .i64 at_] w (eX t s .one ((aG s).drop (at_+1)) w):=by
 have hd:(at_:Int)<(s.size:Int):=by omega
 have hd0:(0:Int)≤(at_:Int):=by omega
 go_enter Tryz.func100,Tryz.ntmps100
 go_wp2_with (go_at_call 111;refine(FE t _ h1 h3).mono ?_;rintro e w' ⟨rfl,rfl⟩)
 go_ret3
 exact⟨_,at_+1,rfl,hat,rfl,aS.lit _ _ [aJ t] (Nat.le_refl _) (by simp[maxLen]),(Below.refl _ _).alloc (Nat.le_refl _) _⟩
theorem P5(t:Int)(s:ByteArray)(at_:Nat)(w:World)(hs:s.size≤1048576)(hat:at_<s.size)(hc:s[at_].toNat=48):Calls Tryz.prog 100 #[.int .i64 t,.string s,.int .i64 at_] w (eX t s .zero ((aG s).drop (at_+1)) w):=by
 have hd:(at_:Int)<(s.size:Int):=by omega
 have hd0:(0:Int)≤(at_:Int):=by omega
 go_enter Tryz.func100,Tryz.ntmps100
 go_wp2_with fail
 go_ret3
 exact⟨_,at_+1,rfl,hat,rfl,aS.lit _ _ [0] (Nat.le_refl _) (by simp[maxLen]),(Below.refl _ _).alloc (Nat.le_refl _) _⟩
theorem UJ(t:Int)(s:ByteArray)(at_:Nat)(w:World)(_hs:s.size≤1048576)(h1:1≤t)(h3:t≤3)(hat:at_<s.size)(hb:kU t s[at_].toNat=false):Calls Tryz.prog 100 #[.int .i64 t,.string s,.int .i64 at_] w (jX w):=by
 have hd:(at_:Int)<(s.size:Int):=by omega
 have hd0:(0:Int)≤(at_:Int):=by omega
 obtain⟨c,hc⟩:∃c,s[at_].toNat=c:=⟨_,rfl⟩
 have hc256:c<256:=by rw[←hc];exact UInt8.toNat_lt _
 rw[hc] at hb
 unfold kU at hb
 simp only[Bool.or_eq_false_iff,decide_eq_false_iff_not] at hb
 have e49:((c:Int)==49)=false:=by rw[beq_eq_false_iff_ne];omega
 have e48:((c:Int)==48)=false:=by rw[beq_eq_false_iff_ne];omega
 have e33:((c:Int)==33)=false:=by rw[beq_eq_false_iff_ne];omega
 have e63:((c:Int)==63)=false:=by rw[beq_eq_false_iff_ne];omega
 have e40:((c:Int)==40)=false:=by rw[beq_eq_false_iff_ne];omega
 by_cases h97:97≤c
 ·have h97i:(97:Int)≤(c:Int):=by omega
  have ht:t≤(c:Int)-97:=by omega
  have hdt:decide ((c:Int)-97<t)=false:=decide_eq_false (by omega)
  clear hb
  go_enter Tryz.func100,Tryz.ntmps100
  go_wp2_with fail
  go_ret3
  exact⟨_,_,_,rfl,(Below.refl _ _).alloc (Nat.le_refl _) _⟩
 ·have h97i:decide ((97:Int)≤(c:Int))=false:=decide_eq_false (by omega)
  clear hb
  go_enter Tryz.func100,Tryz.ntmps100
  go_wp2_with fail
  go_ret3
  exact⟨_,_,_,rfl,(Below.refl _ _).alloc (Nat.le_refl _) _⟩
theorem wQ9(t:Int)(s:ByteArray)(at_:Nat)(w:World)(hs:s.size≤1048576)(hat:at_<s.size)(hc:s[at_].toNat=33)(hi:∀W,Calls Tryz.prog 100 #[.int .i64 t,.string s,.int .i64 ((at_+1:Nat):Int)] W (jX W)):
  Calls Tryz.prog 100 #[.int .i64 t,.string s,.int .i64 at_] w (jX w):=by
 have hd:(at_:Int)<(s.size:Int):=by omega
 have hd0:(0:Int)≤(at_:Int):=by omega
 have HI:=zH hi
 clear hi
 go_enter Tryz.func100,Tryz.ntmps100
 go_wp2_with fail
 refine(HI.out _).mono ?_
 rintro e w1 ⟨A,n,c,rfl,hb⟩
 have HB:=zH hb
 clear hb
 go_wp2_with fail
 go_ret3
 exact⟨_,_,_,rfl,HB.out⟩
theorem VQ(t:Int)(s:ByteArray)(at_:Nat)(w:World)(hs:s.size≤1048576)(hat:at_<s.size)(hc:s[at_].toNat=33)(x:bD)(hl:(bE t x).length≤70)(rest:List Nat)(hi:∀W,Calls Tryz.prog 100 #[.int .i64 t,.string s,.int .i64 ((at_+1:Nat):Int)] W (eX t s x rest W)):
  Calls Tryz.prog 100 #[.int .i64 t,.string s,.int .i64 at_] w (eX t s (.no x) rest w):=by
 have hd:(at_:Int)<(s.size:Int):=by omega
 have hd0:(0:Int)≤(at_:Int):=by omega
 have HI:=zH hi
 clear hi
 go_enter Tryz.func100,Tryz.ntmps100
 go_wp2_with fail
 refine(HI.out _).mono ?_
 rintro e w1 ⟨v,a2,rfl,ha2,hd2,ho,hb⟩
 obtain⟨A1,c1,rfl,_,_,_,_⟩:=ho.form
 have HB:=zH hb
 have HR:=zH (aS.row ho (by omega))
 have HD:=zH hd2
 clear hb ho hd2
 go_wp2_with fail
 refine(DQ t _ _ _ _ _ HR.out).mono ?_
 rintro e w2 ⟨v,rfl,ho,hb⟩
 have HO:=zH (ho.base HB.out.size)
 have HB2:=zH (aA HB.out hb)
 clear ho hb
 go_wp2_with fail
 go_ret3
 exact⟨_,a2,rfl,ha2,HD.out,HO.out,HB2.out⟩
theorem GC(t:Int)(s:ByteArray)(at_:Nat)(w:World)(hs:s.size≤1048576)(hat:at_<s.size)(hc:s[at_].toNat=63)(hi:∀W,Calls Tryz.prog 100 #[.int .i64 t,.string s,.int .i64 ((at_+1:Nat):Int)] W (jX W)):
  Calls Tryz.prog 100 #[.int .i64 t,.string s,.int .i64 at_] w (jX w):=by
 have hd:(at_:Int)<(s.size:Int):=by omega
 have hd0:(0:Int)≤(at_:Int):=by omega
 have HI:=zH hi
 clear hi
 go_enter Tryz.func100,Tryz.ntmps100
 go_wp2_with fail
 refine(HI.out _).mono ?_
 rintro e w1 ⟨A,n,c,rfl,hb⟩
 have HB:=zH hb
 clear hb
 go_wp2_with fail
 go_ret3
 exact⟨_,_,_,rfl,HB.out⟩
theorem TL(t:Int)(s:ByteArray)(at_:Nat)(w:World)(hs:s.size≤1048576)(hat:at_<s.size)(hc:s[at_].toNat=63)(x:bD)(hl:(bE t x).length≤70)(rest:List Nat)(hi:∀W,Calls Tryz.prog 100 #[.int .i64 t,.string s,.int .i64 ((at_+1:Nat):Int)] W (eX t s x rest W)):
  Calls Tryz.prog 100 #[.int .i64 t,.string s,.int .i64 at_] w (eX t s (.ask x) rest w):=by
 have hd:(at_:Int)<(s.size:Int):=by omega
 have hd0:(0:Int)≤(at_:Int):=by omega
 have HI:=zH hi
 clear hi
 go_enter Tryz.func100,Tryz.ntmps100
 go_wp2_with fail
 refine(HI.out _).mono ?_
 rintro e w1 ⟨v,a2,rfl,ha2,hd2,ho,hb⟩
 obtain⟨A1,c1,rfl,_,_,_,_⟩:=ho.form
 have HB:=zH hb
 have HR:=zH (aS.row ho (by omega))
 have HD:=zH hd2
 clear hb ho hd2
 go_wp2_with fail
 refine(DW t _ _ _ _ _ HR.out).mono ?_
 rintro e w2 ⟨v,rfl,ho,hb⟩
 have HO:=zH (ho.base HB.out.size)
 have HB2:=zH (aA HB.out hb)
 clear ho hb
 go_wp2_with fail
 go_ret3
 exact⟨_,a2,rfl,ha2,HD.out,HO.out,HB2.out⟩
theorem DV(t:Int)(s:ByteArray)(at_:Nat)(w:World)(hs:s.size≤1048576)(hat:at_<s.size)(hc:s[at_].toNat=40)(hi:∀W,Calls Tryz.prog 100 #[.int .i64 t,.string s,.int .i64 ((at_+1:Nat):Int)] W (jX W)):
  Calls Tryz.prog 100 #[.int .i64 t,.string s,.int .i64 at_] w (jX w):=by
 have hd:(at_:Int)<(s.size:Int):=by omega
 have hd0:(0:Int)≤(at_:Int):=by omega
 have HI:=zH hi
 clear hi
 go_enter Tryz.func100,Tryz.ntmps100
 go_wp2_with fail
 refine(HI.out _).mono ?_
 rintro e w1 ⟨A,n,c,rfl,hb⟩
 have HB:=zH hb
 clear hb
 go_wp2_with fail
 go_ret3
 exact⟨_,_,_,rfl,HB.out⟩
theorem E5(t:Int)(s:ByteArray)(at_:Nat)(w:World)(hs:s.size≤1048576)(hat:at_<s.size)(hc:s[at_].toNat=40)(x:bD)(hi:∀W,Calls Tryz.prog 100 #[.int .i64 t,.string s,.int .i64 ((at_+1:Nat):Int)] W (eX t s x [] W)):
  Calls Tryz.prog 100 #[.int .i64 t,.string s,.int .i64 at_] w (jX w):=by
 have hd:(at_:Int)<(s.size:Int):=by omega
 have hd0:(0:Int)≤(at_:Int):=by omega
 have HI:=zH hi
 clear hi
 go_enter Tryz.func100,Tryz.ntmps100
 go_wp2_with fail
 refine(HI.out _).mono ?_
 rintro e w1 ⟨v,a2,rfl,ha2,hd2,ho,hb⟩
 obtain⟨A1,c1,rfl,_,_,_,_⟩:=ho.form
 obtain rfl:=eH hd2 ha2
 have HB:=zH hb
 clear hb ho hd2
 go_wp2_with fail
 go_ret3
 exact⟨_,_,_,rfl,HB.out⟩
theorem FM(t:Int)(s:ByteArray)(at_:Nat)(w:World)(hs:s.size≤1048576)(hat:at_<s.size)(hc:s[at_].toNat=40)(x:bD)(m:Nat)(l:List Nat)(hi:∀W,Calls Tryz.prog 100 #[.int .i64 t,.string s,.int .i64 ((at_+1:Nat):Int)] W (eX t s x (m::l) W))
  (hi2:∀(a2:Nat) W,a2≤s.size→(aG s).drop a2=l→Calls Tryz.prog 100 #[.int .i64 t,.string s,.int .i64 a2] W (jX W)):
  Calls Tryz.prog 100 #[.int .i64 t,.string s,.int .i64 at_] w (jX w):=by
 have hd:(at_:Int)<(s.size:Int):=by omega
 have hd0:(0:Int)≤(at_:Int):=by omega
 have HI:=zH hi
 have HI2:=zH hi2
 clear hi hi2
 go_enter Tryz.func100,Tryz.ntmps100
 go_wp2_with fail
 refine(HI.out _).mono ?_
 rintro e w1 ⟨v,a2,rfl,ha2,hd2,ho,hb⟩
 obtain⟨A1,c1,rfl,_,_,_,_⟩:=ho.form
 obtain⟨hlt,hm,hl⟩:=aW hd2
 have HC2:=zH (fun W=>HI2.out (a2+1) W hlt hl)
 have HB:=zH hb
 have hd3:(a2:Int)<(s.size:Int):=by omega
 have hd4:(0:Int)≤(a2:Int):=by omega
 clear hb ho hd2 hl hm
 go_wp2_with fail
 refine(HC2.out _).mono ?_
 rintro e w2 ⟨A,n,c,rfl,hb⟩
 have HB2:=zH (aA HB.out hb)
 clear hb
 go_wp2_with fail
 go_ret3
 exact⟨_,_,_,rfl,HB2.out⟩
theorem G1(t:Int)(s:ByteArray)(at_:Nat)(w:World)(hs:s.size≤1048576)(hat:at_<s.size)(hc:s[at_].toNat=40)(x:bD)(m:Nat)(l:List Nat)(hi:∀W,Calls Tryz.prog 100 #[.int .i64 t,.string s,.int .i64 ((at_+1:Nat):Int)] W (eX t s x (m::l) W))(y:bD)
  (hi2:∀(a2:Nat) W,a2≤s.size→(aG s).drop a2=l→Calls Tryz.prog 100 #[.int .i64 t,.string s,.int .i64 a2] W (eX t s y [] W)):
  Calls Tryz.prog 100 #[.int .i64 t,.string s,.int .i64 at_] w (jX w):=by
 have hd:(at_:Int)<(s.size:Int):=by omega
 have hd0:(0:Int)≤(at_:Int):=by omega
 have HI:=zH hi
 have HI2:=zH hi2
 clear hi hi2
 go_enter Tryz.func100,Tryz.ntmps100
 go_wp2_with fail
 refine(HI.out _).mono ?_
 rintro e w1 ⟨v,a2,rfl,ha2,hd2,ho,hb⟩
 obtain⟨A1,c1,rfl,_,_,_,_⟩:=ho.form
 obtain⟨hlt,hm,hl⟩:=aW hd2
 have HC2:=zH (fun W=>HI2.out (a2+1) W hlt hl)
 have HB:=zH hb
 have hd3:(a2:Int)<(s.size:Int):=by omega
 have hd4:(0:Int)≤(a2:Int):=by omega
 clear hb ho hd2 hl hm
 go_wp2_with fail
 refine(HC2.out _).mono ?_
 rintro e w2 ⟨v,a3,rfl,ha3,hd5,ho,hb⟩
 obtain⟨A2,c2,rfl,_,_,_,_⟩:=ho.form
 obtain rfl:=eH hd5 ha3
 have HB2:=zH (aA HB.out hb)
 clear hb ho hd5
 go_wp2_with fail
 go_ret3
 exact⟨_,_,_,rfl,HB2.out⟩
theorem D3(t:Int)(s:ByteArray)(at_:Nat)(w:World)(hs:s.size≤1048576)(hat:at_<s.size)(hc:s[at_].toNat=40)(x:bD)(m:Nat)(l:List Nat)(hi:∀W,Calls Tryz.prog 100 #[.int .i64 t,.string s,.int .i64 ((at_+1:Nat):Int)] W (eX t s x (m::l) W))(y:bD)(e0:Nat)(r:List Nat)(he:e0≠41)
  (hi2:∀(a2:Nat) W,a2≤s.size→(aG s).drop a2=l→Calls Tryz.prog 100 #[.int .i64 t,.string s,.int .i64 a2] W (eX t s y (e0::r) W)):
  Calls Tryz.prog 100 #[.int .i64 t,.string s,.int .i64 at_] w (jX w):=by
 have hd:(at_:Int)<(s.size:Int):=by omega
 have hd0:(0:Int)≤(at_:Int):=by omega
 have HI:=zH hi
 have HI2:=zH hi2
 have he1:((e0:Int)==41)=false:=by rw[beq_eq_false_iff_ne];omega
 have he2:((e0:Int) != 41)=true:=by rw[bne,he1];rfl
 clear hi hi2 he
 go_enter Tryz.func100,Tryz.ntmps100
 go_wp2_with fail
 refine(HI.out _).mono ?_
 rintro e w1 ⟨v,a2,rfl,ha2,hd2,ho,hb⟩
 obtain⟨A1,c1,rfl,_,_,_,_⟩:=ho.form
 obtain⟨hlt,hm,hl⟩:=aW hd2
 have HC2:=zH (fun W=>HI2.out (a2+1) W hlt hl)
 have HB:=zH hb
 have hd3:(a2:Int)<(s.size:Int):=by omega
 have hd4:(0:Int)≤(a2:Int):=by omega
 clear hb ho hd2 hl hm
 go_wp2_with fail
 refine(HC2.out _).mono ?_
 rintro e w2 ⟨v,a3,rfl,ha3,hd5,ho,hb⟩
 obtain⟨A2,c2,rfl,_,_,_,_⟩:=ho.form
 obtain⟨hlt3,hm3,_⟩:=aW hd5
 have HB2:=zH (aA HB.out hb)
 have hd6:(a3:Int)<(s.size:Int):=by omega
 have hd7:(0:Int)≤(a3:Int):=by omega
 clear hb ho hd5
 go_wp2_with fail
 go_ret3
 exact⟨_,_,_,rfl,HB2.out⟩
theorem EA(t:Int)(s:ByteArray)(at_:Nat)(w:World)(hs:s.size≤1048576)(hat:at_<s.size)(hc:s[at_].toNat=40)(x:bD)(m:Nat)(l:List Nat)(hi:∀W,Calls Tryz.prog 100 #[.int .i64 t,.string s,.int .i64 ((at_+1:Nat):Int)] W (eX t s x (m::l) W))(y:bD)(r:List Nat)
  (hm:(decide (m=38)||decide (m=124)||decide (m=62))=false)
  (hi2:∀(a2:Nat) W,a2≤s.size→(aG s).drop a2=l→Calls Tryz.prog 100 #[.int .i64 t,.string s,.int .i64 a2] W (eX t s y (41::r) W)):
  Calls Tryz.prog 100 #[.int .i64 t,.string s,.int .i64 at_] w (jX w):=by
 have hd:(at_:Int)<(s.size:Int):=by omega
 have hd0:(0:Int)≤(at_:Int):=by omega
 have HI:=zH hi
 have HI2:=zH hi2
 simp only[Bool.or_eq_false_iff,decide_eq_false_iff_not] at hm
 have e1:((m:Int)==38)=false:=by rw[beq_eq_false_iff_ne];omega
 have e2:((m:Int)==124)=false:=by rw[beq_eq_false_iff_ne];omega
 have e3:((m:Int)==62)=false:=by rw[beq_eq_false_iff_ne];omega
 clear hi hi2 hm
 go_enter Tryz.func100,Tryz.ntmps100
 go_wp2_with fail
 refine(HI.out _).mono ?_
 rintro e w1 ⟨v,a2,rfl,ha2,hd2,ho,hb⟩
 obtain⟨A1,c1,rfl,_,_,_,_⟩:=ho.form
 obtain⟨hlt,hm,hl⟩:=aW hd2
 have HC2:=zH (fun W=>HI2.out (a2+1) W hlt hl)
 have HB:=zH hb
 have hd3:(a2:Int)<(s.size:Int):=by omega
 have hd4:(0:Int)≤(a2:Int):=by omega
 clear hb ho hd2 hl
 go_wp2_with fail
 refine(HC2.out _).mono ?_
 rintro e w2 ⟨v,a3,rfl,ha3,hd5,ho,hb⟩
 obtain⟨A2,c2,rfl,_,_,_,_⟩:=ho.form
 obtain⟨hlt3,hm3,_⟩:=aW hd5
 have HB2:=zH (aA HB.out hb)
 have hd6:(a3:Int)<(s.size:Int):=by omega
 have hd7:(0:Int)≤(a3:Int):=by omega
 clear hb ho hd5
 go_wp2_with fail
 go_ret3
 exact⟨_,_,_,rfl,HB2.out.alloc HB2.out.size _⟩
theorem DZ(t:Int)(s:ByteArray)(at_:Nat)(w:World)(hs:s.size≤1048576)(hat:at_<s.size)(hc:s[at_].toNat=40)(x:bD)(l:List Nat)(hi:∀W,Calls Tryz.prog 100 #[.int .i64 t,.string s,.int .i64 ((at_+1:Nat):Int)] W (eX t s x (38::l) W))(y:bD)(r:List Nat)(hlx:(bE t x).length≤70)(hly:(bE t y).length≤70)
  (hi2:∀(a2:Nat) W,a2≤s.size→(aG s).drop a2=l→Calls Tryz.prog 100 #[.int .i64 t,.string s,.int .i64 a2] W (eX t s y (41::r) W)):
  Calls Tryz.prog 100 #[.int .i64 t,.string s,.int .i64 at_] w (eX t s (.and_ x y) r w):=by
 have hd:(at_:Int)<(s.size:Int):=by omega
 have hd0:(0:Int)≤(at_:Int):=by omega
 have HI:=zH hi
 have HI2:=zH hi2
 obtain⟨px,HPX⟩:∃b,Hid (gR x=b):=⟨_,rfl⟩
 obtain⟨py,HPY⟩:∃b,Hid (gR y=b):=⟨_,rfl⟩
 clear hi hi2
 cases px
 all_goals
  go_enter Tryz.func100,Tryz.ntmps100
  go_wp2_with fail
  refine(HI.out _).mono ?_
  rintro e w1 ⟨v,a2,rfl,ha2,hd2,ho,hb⟩
  rw[HPX.out]
  obtain⟨A1,c1,rfl,_,_,_,_⟩:=ho.form
  obtain⟨hlt,hm,hl⟩:=aW hd2
  have HC2:=zH (fun W=>HI2.out (a2+1) W hlt hl)
  have HR1:=zH (aS.row ho (by omega))
  have HB:=zH hb
  have hd3:(a2:Int)<(s.size:Int):=by omega
  have hd4:(0:Int)≤(a2:Int):=by omega
  clear hb ho hd2 hl
  go_wp2_with fail
  refine(HC2.out _).mono ?_
  rintro e w2 ⟨v,a3,rfl,ha3,hd5,ho,hb⟩
  rw[HPY.out]
  obtain⟨A2,c2,rfl,_,_,_,_⟩:=ho.form
  obtain⟨hlt3,hm3,hl3⟩:=aW hd5
  have HB2:=zH (aA HB.out hb)
  have HR2:=zH (aS.row ho (by omega))
  replace HR1:=zH (HR1.out.below hb)
  have HL3:=zH hl3
  have hd6:(a3:Int)<(s.size:Int):=by omega
  have hd7:(0:Int)≤(a3:Int):=by omega
  clear hb ho hd5 hl3
  go_wp2_with fail
  refine(IH t _ _ _ _ _ _ _ _ _ HR1.out HR2.out).mono ?_
  rintro e w3 ⟨v,rfl,ho,hb⟩
  have HO:=zH (ho.base HB2.out.size)
  have HB3:=zH (aA HB2.out hb)
  clear ho hb
  go_wp2_with fail
  go_ret3
  exact⟨_,a3+1,by unfold gR;first|(rw[HPX.out,HPY.out];rfl)|(rw[HPX.out];rfl)|rfl,hlt3,HL3.out,HO.out,HB3.out⟩
theorem E6(t:Int)(s:ByteArray)(at_:Nat)(w:World)(hs:s.size≤1048576)(hat:at_<s.size)(hc:s[at_].toNat=40)(x:bD)(l:List Nat)(hi:∀W,Calls Tryz.prog 100 #[.int .i64 t,.string s,.int .i64 ((at_+1:Nat):Int)] W (eX t s x (124::l) W))(y:bD)(r:List Nat)(hlx:(bE t x).length≤70)(hly:(bE t y).length≤70)
  (hi2:∀(a2:Nat) W,a2≤s.size→(aG s).drop a2=l→Calls Tryz.prog 100 #[.int .i64 t,.string s,.int .i64 a2] W (eX t s y (41::r) W)):
  Calls Tryz.prog 100 #[.int .i64 t,.string s,.int .i64 at_] w (eX t s (.or_ x y) r w):=by
 have hd:(at_:Int)<(s.size:Int):=by omega
 have hd0:(0:Int)≤(at_:Int):=by omega
 have HI:=zH hi
 have HI2:=zH hi2
 obtain⟨px,HPX⟩:∃b,Hid (gR x=b):=⟨_,rfl⟩
 obtain⟨py,HPY⟩:∃b,Hid (gR y=b):=⟨_,rfl⟩
 clear hi hi2
 cases px
 all_goals
  go_enter Tryz.func100,Tryz.ntmps100
  go_wp2_with fail
  refine(HI.out _).mono ?_
  rintro e w1 ⟨v,a2,rfl,ha2,hd2,ho,hb⟩
  rw[HPX.out]
  obtain⟨A1,c1,rfl,_,_,_,_⟩:=ho.form
  obtain⟨hlt,hm,hl⟩:=aW hd2
  have HC2:=zH (fun W=>HI2.out (a2+1) W hlt hl)
  have HR1:=zH (aS.row ho (by omega))
  have HB:=zH hb
  have hd3:(a2:Int)<(s.size:Int):=by omega
  have hd4:(0:Int)≤(a2:Int):=by omega
  clear hb ho hd2 hl
  go_wp2_with fail
  refine(HC2.out _).mono ?_
  rintro e w2 ⟨v,a3,rfl,ha3,hd5,ho,hb⟩
  rw[HPY.out]
  obtain⟨A2,c2,rfl,_,_,_,_⟩:=ho.form
  obtain⟨hlt3,hm3,hl3⟩:=aW hd5
  have HB2:=zH (aA HB.out hb)
  have HR2:=zH (aS.row ho (by omega))
  replace HR1:=zH (HR1.out.below hb)
  have HL3:=zH hl3
  have hd6:(a3:Int)<(s.size:Int):=by omega
  have hd7:(0:Int)≤(a3:Int):=by omega
  clear hb ho hd5 hl3
  go_wp2_with fail
  refine(vX t _ _ _ _ _ _ _ _ _ HR1.out HR2.out).mono ?_
  rintro e w3 ⟨v,rfl,ho,hb⟩
  have HO:=zH (ho.base HB2.out.size)
  have HB3:=zH (aA HB2.out hb)
  clear ho hb
  go_wp2_with fail
  go_ret3
  exact⟨_,a3+1,by unfold gR;first|(rw[HPX.out,HPY.out];rfl)|(rw[HPX.out];rfl)|rfl,hlt3,HL3.out,HO.out,HB3.out⟩
theorem ET(t:Int)(s:ByteArray)(at_:Nat)(w:World)(hs:s.size≤1048576)(hat:at_<s.size)(hc:s[at_].toNat=40)(x:bD)(l:List Nat)(hi:∀W,Calls Tryz.prog 100 #[.int .i64 t,.string s,.int .i64 ((at_+1:Nat):Int)] W (eX t s x (62::l) W))(y:bD)(r:List Nat)(hlx:(bE t x).length≤70)(hly:(bE t y).length≤70)
  (hi2:∀(a2:Nat) W,a2≤s.size→(aG s).drop a2=l→Calls Tryz.prog 100 #[.int .i64 t,.string s,.int .i64 a2] W (eX t s y (41::r) W)):
  Calls Tryz.prog 100 #[.int .i64 t,.string s,.int .i64 at_] w (eX t s (.if_ x y) r w):=by
 have hd:(at_:Int)<(s.size:Int):=by omega
 have hd0:(0:Int)≤(at_:Int):=by omega
 have HI:=zH hi
 have HI2:=zH hi2
 obtain⟨px,HPX⟩:∃b,Hid (gR x=b):=⟨_,rfl⟩
 obtain⟨py,HPY⟩:∃b,Hid (gR y=b):=⟨_,rfl⟩
 clear hi hi2
 cases px
 all_goals
  go_enter Tryz.func100,Tryz.ntmps100
  go_wp2_with fail
  refine(HI.out _).mono ?_
  rintro e w1 ⟨v,a2,rfl,ha2,hd2,ho,hb⟩
  rw[HPX.out]
  obtain⟨A1,c1,rfl,_,_,_,_⟩:=ho.form
  obtain⟨hlt,hm,hl⟩:=aW hd2
  have HC2:=zH (fun W=>HI2.out (a2+1) W hlt hl)
  have HR1:=zH (aS.row ho (by omega))
  have HB:=zH hb
  have hd3:(a2:Int)<(s.size:Int):=by omega
  have hd4:(0:Int)≤(a2:Int):=by omega
  clear hb ho hd2 hl
  go_wp2_with fail
  refine(HC2.out _).mono ?_
  rintro e w2 ⟨v,a3,rfl,ha3,hd5,ho,hb⟩
  rw[HPY.out]
  obtain⟨A2,c2,rfl,_,_,_,_⟩:=ho.form
  obtain⟨hlt3,hm3,hl3⟩:=aW hd5
  have HB2:=zH (aA HB.out hb)
  have HR2:=zH (aS.row ho (by omega))
  replace HR1:=zH (HR1.out.below hb)
  have HL3:=zH hl3
  have hd6:(a3:Int)<(s.size:Int):=by omega
  have hd7:(0:Int)≤(a3:Int):=by omega
  clear hb ho hd5 hl3
  go_wp2_with fail
  refine(GM t _ _ _ _ _ _ _ _ _ HR1.out HR2.out).mono ?_
  rintro e w3 ⟨v,rfl,ho,hb⟩
  have HO:=zH (ho.base HB2.out.size)
  have HB3:=zH (aA HB2.out hb)
  clear ho hb
  go_wp2_with fail
  go_ret3
  exact⟨_,a3+1,by unfold gR;first|(rw[HPX.out,HPY.out];rfl)|(rw[HPX.out];rfl)|rfl,hlt3,HL3.out,HO.out,HB3.out⟩
theorem LA(t:Int)(s:ByteArray)(at_:Nat)(w:World)(hs:s.size≤1048576)(hat:at_<s.size)(i:Nat)(hc:s[at_].toNat=97+i)(h1:1≤t)(h3:t≤3)(hi:(i:Int)<t):
  Calls Tryz.prog 100 #[.int .i64 t,.string s,.int .i64 at_] w (R1 (bV (97+i) (aP t)) at_ w):=by
 have hd:(at_:Int)<(s.size:Int):=by omega
 have hd0:(0:Int)≤(at_:Int):=by omega
 have h:(t=1∧i=0)∨(t=2∧i=0)∨(t=2∧i=1)∨(t=3∧i=0)∨(t=3∧i=1)∨(t=3∧i=2):=by omega
 clear h1 h3 hi
 rcases h with⟨rfl,rfl⟩|⟨rfl,rfl⟩|⟨rfl,rfl⟩|⟨rfl,rfl⟩|⟨rfl,rfl⟩|⟨rfl,rfl⟩
 ·have hc:s[at_].toNat=97:=hc
  have hb:Hid (∀k:Nat,k<2→k=0∨k=1∨k=2∨k=3∨k=4∨k=5∨k=6∨k=7):=fun k hk=>by omega
  go_enter Tryz.func100,Tryz.ntmps100
  go_wp2_with fail
  go_loop [9,10] (fun v i=>∃k:Nat,k≤2∧i= .int .i64 k∧v= .int .i64 (bV 97 k)) (fun _ i=>2-(Go.RowKit.intOf i).toNat)
  case atStart=>exact⟨0,Nat.zero_le _,rfl,rfl⟩
  case round=>
   obtain⟨k,hk,rfl,rfl⟩:=hrel
   by_cases hlt:k<2
   ·have h8:=hb.out k hlt
    clear hk
    rcases h8 with rfl|rfl|rfl|rfl|rfl|rfl|rfl|rfl
    all_goals first
     |(exfalso;revert hlt;decide)
     |(clear hlt
       go_wp2_with fail
       exact⟨⟨_,by decide,rfl,by first|rfl|(rw[IntWalk.wrap64_in _ ⟨by decide,by decide⟩];rfl)⟩,by decide⟩)
   ·obtain rfl:k=2:=by omega
    go_wp2_with fail
    go_ret3
    exact⟨_,rfl,aS.lit _ _ [((bV 97 2:Nat):Int)] (Nat.le_refl _) (by simp[maxLen]),(Below.refl _ _).alloc (Nat.le_refl _) _⟩
 ·have hc:s[at_].toNat=97:=hc
  have hb:Hid (∀k:Nat,k<4→k=0∨k=1∨k=2∨k=3∨k=4∨k=5∨k=6∨k=7):=fun k hk=>by omega
  go_enter Tryz.func100,Tryz.ntmps100
  go_wp2_with fail
  go_loop [9,10] (fun v i=>∃k:Nat,k≤4∧i= .int .i64 k∧v= .int .i64 (bV 97 k)) (fun _ i=>4-(Go.RowKit.intOf i).toNat)
  case atStart=>exact⟨0,Nat.zero_le _,rfl,rfl⟩
  case round=>
   obtain⟨k,hk,rfl,rfl⟩:=hrel
   by_cases hlt:k<4
   ·have h8:=hb.out k hlt
    clear hk
    rcases h8 with rfl|rfl|rfl|rfl|rfl|rfl|rfl|rfl
    all_goals first
     |(exfalso;revert hlt;decide)
     |(clear hlt
       go_wp2_with fail
       exact⟨⟨_,by decide,rfl,by first|rfl|(rw[IntWalk.wrap64_in _ ⟨by decide,by decide⟩];rfl)⟩,by decide⟩)
   ·obtain rfl:k=4:=by omega
    go_wp2_with fail
    go_ret3
    exact⟨_,rfl,aS.lit _ _ [((bV 97 4:Nat):Int)] (Nat.le_refl _) (by simp[maxLen]),(Below.refl _ _).alloc (Nat.le_refl _) _⟩
 ·have hc:s[at_].toNat=98:=hc
  have hb:Hid (∀k:Nat,k<4→k=0∨k=1∨k=2∨k=3∨k=4∨k=5∨k=6∨k=7):=fun k hk=>by omega
  go_enter Tryz.func100,Tryz.ntmps100
  go_wp2_with fail
  go_loop [9,10] (fun v i=>∃k:Nat,k≤4∧i= .int .i64 k∧v= .int .i64 (bV 98 k)) (fun _ i=>4-(Go.RowKit.intOf i).toNat)
  case atStart=>exact⟨0,Nat.zero_le _,rfl,rfl⟩
  case round=>
   obtain⟨k,hk,rfl,rfl⟩:=hrel
   by_cases hlt:k<4
   ·have h8:=hb.out k hlt
    clear hk
    rcases h8 with rfl|rfl|rfl|rfl|rfl|rfl|rfl|rfl
    all_goals first
     |(exfalso;revert hlt;decide)
     |(clear hlt
       go_wp2_with fail
       exact⟨⟨_,by decide,rfl,by first|rfl|(rw[IntWalk.wrap64_in _ ⟨by decide,by decide⟩];rfl)⟩,by decide⟩)
   ·obtain rfl:k=4:=by omega
    go_wp2_with fail
    go_ret3
    exact⟨_,rfl,aS.lit _ _ [((bV 98 4:Nat):Int)] (Nat.le_refl _) (by simp[maxLen]),(Below.refl _ _).alloc (Nat.le_refl _) _⟩
 ·have hc:s[at_].toNat=97:=hc
  have hb:Hid (∀k:Nat,k<8→k=0∨k=1∨k=2∨k=3∨k=4∨k=5∨k=6∨k=7):=fun k hk=>by omega
  go_enter Tryz.func100,Tryz.ntmps100
  go_wp2_with fail
  go_loop [9,10] (fun v i=>∃k:Nat,k≤8∧i= .int .i64 k∧v= .int .i64 (bV 97 k)) (fun _ i=>8-(Go.RowKit.intOf i).toNat)
  case atStart=>exact⟨0,Nat.zero_le _,rfl,rfl⟩
  case round=>
   obtain⟨k,hk,rfl,rfl⟩:=hrel
   by_cases hlt:k<8
   ·have h8:=hb.out k hlt
    clear hk
    rcases h8 with rfl|rfl|rfl|rfl|rfl|rfl|rfl|rfl
    all_goals first
     |(exfalso;revert hlt;decide)
     |(clear hlt
       go_wp2_with fail
       exact⟨⟨_,by decide,rfl,by first|rfl|(rw[IntWalk.wrap64_in _ ⟨by decide,by decide⟩];rfl)⟩,by decide⟩)
   ·obtain rfl:k=8:=by omega
    go_wp2_with fail
    go_ret3
    exact⟨_,rfl,aS.lit _ _ [((bV 97 8:Nat):Int)] (Nat.le_refl _) (by simp[maxLen]),(Below.refl _ _).alloc (Nat.le_refl _) _⟩
 ·have hc:s[at_].toNat=98:=hc
  have hb:Hid (∀k:Nat,k<8→k=0∨k=1∨k=2∨k=3∨k=4∨k=5∨k=6∨k=7):=fun k hk=>by omega
  go_enter Tryz.func100,Tryz.ntmps100
  go_wp2_with fail
  go_loop [9,10] (fun v i=>∃k:Nat,k≤8∧i= .int .i64 k∧v= .int .i64 (bV 98 k)) (fun _ i=>8-(Go.RowKit.intOf i).toNat)
  case atStart=>exact⟨0,Nat.zero_le _,rfl,rfl⟩
  case round=>
   obtain⟨k,hk,rfl,rfl⟩:=hrel
   by_cases hlt:k<8
   ·have h8:=hb.out k hlt
    clear hk
    rcases h8 with rfl|rfl|rfl|rfl|rfl|rfl|rfl|rfl
    all_goals first
     |(exfalso;revert hlt;decide)
     |(clear hlt
       go_wp2_with fail
       exact⟨⟨_,by decide,rfl,by first|rfl|(rw[IntWalk.wrap64_in _ ⟨by decide,by decide⟩];rfl)⟩,by decide⟩)
   ·obtain rfl:k=8:=by omega
    go_wp2_with fail
    go_ret3
    exact⟨_,rfl,aS.lit _ _ [((bV 98 8:Nat):Int)] (Nat.le_refl _) (by simp[maxLen]),(Below.refl _ _).alloc (Nat.le_refl _) _⟩
 ·have hc:s[at_].toNat=99:=hc
  have hb:Hid (∀k:Nat,k<8→k=0∨k=1∨k=2∨k=3∨k=4∨k=5∨k=6∨k=7):=fun k hk=>by omega
  go_enter Tryz.func100,Tryz.ntmps100
  go_wp2_with fail
  go_loop [9,10] (fun v i=>∃k:Nat,k≤8∧i= .int .i64 k∧v= .int .i64 (bV 99 k)) (fun _ i=>8-(Go.RowKit.intOf i).toNat)
  case atStart=>exact⟨0,Nat.zero_le _,rfl,rfl⟩
  case round=>
   obtain⟨k,hk,rfl,rfl⟩:=hrel
   by_cases hlt:k<8
   ·have h8:=hb.out k hlt
    clear hk
    rcases h8 with rfl|rfl|rfl|rfl|rfl|rfl|rfl|rfl
    all_goals first
     |(exfalso;revert hlt;decide)
     |(clear hlt
       go_wp2_with fail
       exact⟨⟨_,by decide,rfl,by first|rfl|(rw[IntWalk.wrap64_in _ ⟨by decide,by decide⟩];rfl)⟩,by decide⟩)
   ·obtain rfl:k=8:=by omega
    go_wp2_with fail
    go_ret3
    exact⟨_,rfl,aS.lit _ _ [((bV 99 8:Nat):Int)] (Nat.le_refl _) (by simp[maxLen]),(Below.refl _ _).alloc (Nat.le_refl _) _⟩
end Go.Proofs.YtfhjcacfchkdpaaGreatDoor
