/-
  What the proofs of this seat's statements share (Spd, Shl, MathJ, MathO, MathQ, MathR, MathT, BitL).
-/
import Derived.Test.YtfhjcacfchkdpaaGreatDoorU12
set_option maxRecDepth 100000
set_option maxHeartbeats 32000000
namespace Go.Proofs.YtfhjcacfchkdpaaGreatDoor
open Go.RowKit
theorem E0{t:Int}{s:ByteArray}(h:t<1∨3<t∨60<s.size):fC t s=none:=by
 unfold fC kT;rw[if_neg (by rw[bR];omega)]
theorem DR{t:Int}{s:ByteArray}(h1:1≤t)(h3:t≤3)(hl:s.size≤60)(h:bM t s.size (aG s)=none):fC t s=none:=
 AV h1 h3 (by rw[bR];exact hl) (by rw[bR];exact h)
theorem DI{t:Int}{s:ByteArray}{x:bD}{c:Nat}{r:List Nat}(h1:1≤t)(h3:t≤3)(hl:s.size≤60)(h:bM t s.size (aG s)=some (x,c::r)):fC t s=none:=
 A7 h1 h3 (by rw[bR];exact hl) (by rw[bR];exact h)
theorem CX{t:Int}{s:ByteArray}{x:bD}(h1:1≤t)(h3:t≤3)(hl:s.size≤60)(h:bM t s.size (aG s)=some (x,[])):fC t s=some x:=
 zO h1 h3 (by rw[bR];exact hl) (by rw[bR];exact h)
theorem yS{t:Int}{s:ByteArray}{x:bD}(h:fC t s=some x):bM t s.size (aG s)=some (x,[]):=by
 obtain⟨h1,h3,hl,hok,ht⟩:=jQ h
 rcases hr:bM t s.size (aG s) with _|⟨y,_|⟨c,r⟩⟩
 ·rw[DR h1 h3 hl hr] at h;cases h
 ·rw[CX h1 h3 hl hr] at h;cases h;rfl
 ·rw[DI h1 h3 hl hr] at h;cases h
theorem zW{t:Int}{s:ByteArray}{x:bD}(h:fC t s=some x)(w:World):Calls Tryz.prog 100 #[.int .i64 t,.string s,.int .i64 0] w (eX t s x [] w):=by
 obtain⟨h1,h3,hl,hok,ht⟩:=jQ h
 have:=MY t s (by omega) h1 h3 s.size 0 w (by omega) (by omega)
 rw[List.drop_zero,yS h] at this
 exact this
theorem IG{t:Int}{s:ByteArray}{x:bD}(h:fC t s=some x)(m:Nat)(hm:(m:Int)≤aJ t)(w:World):Calls Tryz.prog 128 #[.int .i64 t,.string s,.int .i64 0,.int .i64 m] w (kR t s x [] m w):=by
 obtain⟨h1,h3,hl,hok,ht⟩:=jQ h
 exact VW t s (by omega) h1 h3 s.size 0 x [] (by rw[List.drop_zero];exact yS h) m w hm
theorem vL(t:Int)(s:ByteArray)(w:World)(hs:s.size≤9223372036854775807):
  Calls Tryz.prog 63 #[.int .i64 t,.string s] w fun e w' =>e= .returned (.bool (fY t s))∧Below w.heap.size w w' :=by
 have hnot:∀(x:Bool) (w:World),(Op.unary .not (.bool x)).run Tryz.prog w= .ok (.bool (!x)) w:=fun _ _=>rfl
 by_cases ht:t<1∨3<t
 ·rw[show fY t s=false by unfold fY;rw[E0 (by omega)];rfl]
  go_enter Tryz.func63,Tryz.ntmps63
  go_wp2_with fail
  refine(n4 _ _ _ _ ht).mono ?_
  rintro e w' ⟨rfl,rfl⟩
  go_wp2_with fail
  go_ret
  exact⟨rfl,Below.refl _ _⟩
 by_cases hl:60<s.size
 ·rw[show fY t s=false by unfold fY;rw[E0 (by omega)];rfl]
  have hd:decide ((60:Int)<(s.size:Int))=true:=decide_eq_true (by omega)
  go_enter Tryz.func63,Tryz.ntmps63
  go_wp2_with fail
  refine(hV _ _ _ _ (by omega) (by omega)).mono ?_
  rintro e w' ⟨rfl,rfl⟩
  go_wp2_with fail
  go_ret
  exact⟨rfl,Below.refl _ _⟩
 have h1:1≤t:=by omega
 have h3:t≤3:=by omega
 have hd:decide ((60:Int)<(s.size:Int))=false:=decide_eq_false (by omega)
 have hr:=MY t s (by omega) h1 h3 s.size 0
 rcases hrd:bM t s.size (aG s) with _|⟨x,rest⟩
 ·have HI:Hid (∀W,Calls Tryz.prog 100 #[.int .i64 t,.string s,.int .i64 0] W (jX W)):=fun W=>by
   have:=hr W (by omega) (by omega)
   rw[List.drop_zero,hrd] at this;exact this
  rw[show fY t s=false by unfold fY;rw[DR h1 h3 (by omega) hrd];rfl]
  have he:((-1:Int)==(s.size:Int))=false:=by rw[beq_eq_false_iff_ne];omega
  clear hr hrd ht hl
  go_enter Tryz.func63,Tryz.ntmps63
  go_wp2_with fail
  refine(hV _ _ _ _ (by omega) (by omega)).mono ?_
  rintro e w' ⟨rfl,rfl⟩
  go_wp2_with fail
  refine(HI.out _).mono ?_
  rintro e w1 ⟨A,n,c,rfl,hb⟩
  have HB:=zH hb
  clear hb
  go_wp2_with fail
  go_ret
  exact⟨rfl,HB.out⟩
 ·have HI:Hid (∀W,Calls Tryz.prog 100 #[.int .i64 t,.string s,.int .i64 0] W (eX t s x rest W)):=fun W=>by
   have:=hr W (by omega) (by omega)
   rw[List.drop_zero,hrd] at this;exact this
  have hv:fY t s=decide (rest=[]):=by
   rcases rest with _|⟨c,r⟩
   ·unfold fY;rw[CX h1 h3 (by omega) hrd];rfl
   ·unfold fY;rw[DI h1 h3 (by omega) hrd];rfl
  have HV:=zH hv
  clear hr hrd ht hl hv
  go_enter Tryz.func63,Tryz.ntmps63
  go_wp2_with fail
  refine(hV _ _ _ _ (by omega) (by omega)).mono ?_
  rintro e w' ⟨rfl,rfl⟩
  go_wp2_with fail
  refine(HI.out _).mono ?_
  rintro e w1 ⟨v,a2,rfl,ha2,hd2,ho,hb⟩
  obtain⟨A1,c1,rfl,_,_,_,_⟩:=ho.form
  have HB:=zH hb
  have HE:Hid (((a2:Int)==(s.size:Int))=fY t s):=by
   unfold Hid
   rw[HV.out,Bool.eq_iff_iff,beq_iff_eq,decide_eq_true_eq]
   constructor
   ·intro h
    rw[←hd2]
    exact List.drop_eq_nil_of_le (by rw[bR];omega)
   ·intro h
    rw[h] at hd2
    have:=eH hd2 ha2
    omega
  clear hb ho hd2
  go_wp2_with fail
  go_ret
  exact⟨aM HE.out,HB.out⟩
theorem fD{t:Int}{s:ByteArray}{b:Bool}(h:Hid (fY t s=b))(w:World)(hs:s.size≤9223372036854775807):
  Calls Tryz.prog 63 #[.int .i64 t,.string s] w fun e w' =>e= .returned (.bool b)∧Below w.heap.size w w' :=
 (vL t s w hs).mono fun _ _ ⟨he,hw⟩=>⟨he.trans (aM h.out),hw⟩
theorem EV{t:Int}{s:ByteArray}(h:fC t s=none):fY t s=false:=(sK h).2
theorem FT{t:Int}{s:ByteArray}{x:bD}(h:fC t s=some x):fY t s=true:=(kM h).2
theorem LR(t k:Int)(s:ByteArray)(w:World)(hs:s.size≤9223372036854775807):
  Calls Tryz.prog 102 #[.int .i64 t,.int .i64 k,.string s] w fun e w' =>e= .returned (.bool (jE t k s))∧Below w.heap.size w w' :=by
 have hnot:∀(x:Bool) (w:World),(Op.unary .not (.bool x)).run Tryz.prog w= .ok (.bool (!x)) w:=fun _ _=>rfl
 rcases hset:aO t k with _|_
 ·have HS:=zH hset
  rw[show jE t k s=false by unfold jE;rw[hset];cases fC t s<;>rfl]
  clear hset
  go_enter Tryz.func102,Tryz.ntmps102
  go_wp2_with fail
  refine(zV _ _ _).mono ?_
  rintro e w' ⟨rfl,rfl⟩
  rw[HS.out]
  go_wp2_with fail
  go_ret
  exact⟨rfl,Below.refl _ _⟩
 ·have HS:=zH hset
  obtain⟨_,_,hk0,hka,_⟩:=aZ hset
  rcases hx:fC t s with _|x
  ·have HT:=zH (EV hx)
   rw[show jE t k s=false by unfold jE;rw[hx]]
   clear hset hx
   go_enter Tryz.func102,Tryz.ntmps102
   go_wp2_with fail
   refine(zV _ _ _).mono ?_
   rintro e w' ⟨rfl,rfl⟩
   rw[HS.out]
   go_wp2_with fail
   refine(fD HT _ hs).mono ?_
   rintro e w1 ⟨rfl,hb⟩
   have HB:=zH hb
   clear hb
   go_wp2_with fail
   go_ret
   exact⟨rfl,HB.out⟩
  ·have HX:=zH hx
   have HT:=zH (FT hx)
   rw[show jE t k s=aN t x k by unfold jE;rw[hx,hset];rfl]
   obtain⟨m,rfl⟩:∃m:Nat,k=m:=⟨k.toNat,by omega⟩
   clear hset hx
   go_enter Tryz.func102,Tryz.ntmps102
   go_wp2_with fail
   refine(zV _ _ _).mono ?_
   rintro e w' ⟨rfl,rfl⟩
   rw[HS.out]
   go_wp2_with fail
   refine(fD HT _ hs).mono ?_
   rintro e w1 ⟨rfl,hb⟩
   have HB:=zH hb
   clear hb
   go_wp2_with fail
   refine(IG HX.out m hka _).mono ?_
   rintro e w2 ⟨a2,rfl,_,_,q,rfl⟩
   go_wp2_with fail
   go_ret
   exact⟨rfl,aE HB.out _⟩
theorem kV{t k:Int}{s:ByteArray}{b:Bool}(h:Hid (jE t k s=b))(w:World)(hs:s.size≤9223372036854775807):
  Calls Tryz.prog 102 #[.int .i64 t,.int .i64 k,.string s] w fun e w' =>e= .returned (.bool b)∧Below w.heap.size w w' :=
 (LR t k s w hs).mono fun _ _ ⟨he,hw⟩=>⟨he.trans (aM h.out),hw⟩
theorem pJ{t:Int}{s:ByteArray}{x:bD}{k:Nat}(h:fC t s=some x)(hk:k<aP t):jE t ((2^k:Nat):Int) s=aN t x (bZ k):=by
 obtain⟨h1,h3,_⟩:=jQ h
 have:=iS h1 h3 hk
 unfold jE
 rw[h]
 show(aO t (bZ k)&&_)=_
 rw[cW h1 h3 this.1 this.2];rfl
theorem yZ{t:Int}{x:bD}{k:Nat}(h:aN t x (bZ k)=true):dW t x k+2^k=dW t x (k+1):=by
 conv=>rhs;unfold dW
 rw[if_pos h]
theorem T8(t:Int)(s:ByteArray)(w:World)(hs:s.size≤9223372036854775807):
  Calls Tryz.prog 67 #[.int .i64 t,.string s] w fun e w' =>e= .returned (.int .i64 (dO t s))∧Below w.heap.size w w' :=by
 have hnot:∀(x:Bool) (w:World),(Op.unary .not (.bool x)).run Tryz.prog w= .ok (.bool (!x)) w:=fun _ _=>rfl
 rcases hx:fC t s with _|x
 ·have HT:=zH (EV hx)
  rw[show dO t s= -1 by unfold dO;rw[hx]]
  clear hx
  go_enter Tryz.func67,Tryz.ntmps67
  go_wp2_with fail
  refine(fD HT _ hs).mono ?_
  rintro e w1 ⟨rfl,hb⟩
  have HB:=zH hb
  clear hb
  go_wp2_with fail
  go_ret
  exact⟨rfl,HB.out⟩
 ·have HT:=zH (FT hx)
  obtain⟨h1,h3,_⟩:=jQ hx
  have HF:Hid (dO t s=(dW t x (aP t):Int)):=by unfold Hid dO;rw[hx]
  have HX:=zH hx
  have h:t=1∨t=2∨t=3:=by omega
  clear hx h1 h3
  rcases h with rfl|rfl|rfl
  ·go_enter Tryz.func67,Tryz.ntmps67
   go_wp2_with fail
   refine(fD HT _ hs).mono ?_
   rintro e w1 ⟨rfl,hb⟩
   have HB:=zH hb
   clear hb
   go_wp2_with fail
   go_loopw [5,6] (fun v i wr=>∃k:Nat,k≤2∧i= .int .i64 k∧v= .int .i64 (dW 1 x k)∧Below w1.heap.size w1 wr) (fun _ i _=>2-(Go.RowKit.intOf i).toNat)
   case atStart=>exact⟨0,Nat.zero_le _,rfl,rfl,Below.refl _ _⟩
   case round=>
    obtain⟨k,hk,rfl,rfl,hbr⟩:=hrel
    have HBR:=zH hbr
    clear hbr
    by_cases hlt:k<2
    ·have hsup:=pJ HX.out (k:=k) hlt
     have htl:=oP 1 x k (by omega)
     have hp:2^k≤2^7:=Nat.pow_le_pow_right (by omega) (by omega)
     have HWP:=zH (lK (k:=k) (by omega))
     obtain⟨p,HP⟩:∃p:Nat,Hid (2^k=p):=⟨_,rfl⟩
     obtain⟨tv,HTV⟩:∃tv:Nat,Hid (dW 1 x k=tv):=⟨_,rfl⟩
     rw[HP.out] at hsup htl hp HWP
     rw[HTV.out] at htl⊢
     rcases hh:aN 1 x (bZ k) with _|_
     ·rw[hh] at hsup
      have HS:=zH (rY hh)
      have HSU:=zH hsup
      clear hk hh hsup
      go_wp2_with fail
      rw[HWP.out]
      refine(kV HSU _ hs).mono ?_
      rintro e w2 ⟨rfl,hb⟩
      have HB2:=zH (aA HBR.out hb)
      clear hb
      go_wp2_with fail
      refine⟨⟨k+1,by omega,by go_num,by rw[←HS.out,HTV.out],HB2.out⟩,?_⟩
      simp[Go.RowKit.intOf];omega
     ·rw[hh] at hsup
      have HS:=zH (yZ hh)
      have HSU:=zH hsup
      clear hk hh hsup
      go_wp2_with fail
      rw[HWP.out]
      refine(kV HSU _ hs).mono ?_
      rintro e w2 ⟨rfl,hb⟩
      have HB2:=zH (aA HBR.out hb)
      clear hb
      go_wp2_with fail
      try rw[HWP.out]
      refine⟨⟨k+1,by omega,by go_num,?_,HB2.out⟩,?_⟩
      ·rw[←HS.out,HTV.out,HP.out]
       first|rw[IntWalk.wrap64_in _ ⟨by omega,by omega⟩];rfl|rfl
      ·simp[Go.RowKit.intOf];omega
    ·obtain rfl:k=2:=by omega
     have HB2:=zH (aA HB.out HBR.out)
     go_wp2_with fail
     go_ret
     exact⟨jR (by rw[HF.out];rfl),HB2.out⟩
  ·go_enter Tryz.func67,Tryz.ntmps67
   go_wp2_with fail
   refine(fD HT _ hs).mono ?_
   rintro e w1 ⟨rfl,hb⟩
   have HB:=zH hb
   clear hb
   go_wp2_with fail
   go_loopw [5,6] (fun v i wr=>∃k:Nat,k≤4∧i= .int .i64 k∧v= .int .i64 (dW 2 x k)∧Below w1.heap.size w1 wr) (fun _ i _=>4-(Go.RowKit.intOf i).toNat)
   case atStart=>exact⟨0,Nat.zero_le _,rfl,rfl,Below.refl _ _⟩
   case round=>
    obtain⟨k,hk,rfl,rfl,hbr⟩:=hrel
    have HBR:=zH hbr
    clear hbr
    by_cases hlt:k<4
    ·have hsup:=pJ HX.out (k:=k) hlt
     have htl:=oP 2 x k (by omega)
     have hp:2^k≤2^7:=Nat.pow_le_pow_right (by omega) (by omega)
     have HWP:=zH (lK (k:=k) (by omega))
     obtain⟨p,HP⟩:∃p:Nat,Hid (2^k=p):=⟨_,rfl⟩
     obtain⟨tv,HTV⟩:∃tv:Nat,Hid (dW 2 x k=tv):=⟨_,rfl⟩
     rw[HP.out] at hsup htl hp HWP
     rw[HTV.out] at htl⊢
     rcases hh:aN 2 x (bZ k) with _|_
     ·rw[hh] at hsup
      have HS:=zH (rY hh)
      have HSU:=zH hsup
      clear hk hh hsup
      go_wp2_with fail
      rw[HWP.out]
      refine(kV HSU _ hs).mono ?_
      rintro e w2 ⟨rfl,hb⟩
      have HB2:=zH (aA HBR.out hb)
      clear hb
      go_wp2_with fail
      refine⟨⟨k+1,by omega,by go_num,by rw[←HS.out,HTV.out],HB2.out⟩,?_⟩
      simp[Go.RowKit.intOf];omega
     ·rw[hh] at hsup
      have HS:=zH (yZ hh)
      have HSU:=zH hsup
      clear hk hh hsup
      go_wp2_with fail
      rw[HWP.out]
      refine(kV HSU _ hs).mono ?_
      rintro e w2 ⟨rfl,hb⟩
      have HB2:=zH (aA HBR.out hb)
      clear hb
      go_wp2_with fail
      try rw[HWP.out]
      refine⟨⟨k+1,by omega,by go_num,?_,HB2.out⟩,?_⟩
      ·rw[←HS.out,HTV.out,HP.out]
       first|rw[IntWalk.wrap64_in _ ⟨by omega,by omega⟩];rfl|rfl
      ·simp[Go.RowKit.intOf];omega
    ·obtain rfl:k=4:=by omega
     have HB2:=zH (aA HB.out HBR.out)
     go_wp2_with fail
     go_ret
     exact⟨jR (by rw[HF.out];rfl),HB2.out⟩
  ·go_enter Tryz.func67,Tryz.ntmps67
   go_wp2_with fail
   refine(fD HT _ hs).mono ?_
   rintro e w1 ⟨rfl,hb⟩
   have HB:=zH hb
   clear hb
   go_wp2_with fail
   go_loopw [5,6] (fun v i wr=>∃k:Nat,k≤8∧i= .int .i64 k∧v= .int .i64 (dW 3 x k)∧Below w1.heap.size w1 wr) (fun _ i _=>8-(Go.RowKit.intOf i).toNat)
   case atStart=>exact⟨0,Nat.zero_le _,rfl,rfl,Below.refl _ _⟩
   case round=>
    obtain⟨k,hk,rfl,rfl,hbr⟩:=hrel
    have HBR:=zH hbr
    clear hbr
    by_cases hlt:k<8
    ·have hsup:=pJ HX.out (k:=k) hlt
     have htl:=oP 3 x k (by omega)
     have hp:2^k≤2^7:=Nat.pow_le_pow_right (by omega) (by omega)
     have HWP:=zH (lK (k:=k) (by omega))
     obtain⟨p,HP⟩:∃p:Nat,Hid (2^k=p):=⟨_,rfl⟩
     obtain⟨tv,HTV⟩:∃tv:Nat,Hid (dW 3 x k=tv):=⟨_,rfl⟩
     rw[HP.out] at hsup htl hp HWP
     rw[HTV.out] at htl⊢
     rcases hh:aN 3 x (bZ k) with _|_
     ·rw[hh] at hsup
      have HS:=zH (rY hh)
      have HSU:=zH hsup
      clear hk hh hsup
      go_wp2_with fail
      rw[HWP.out]
      refine(kV HSU _ hs).mono ?_
      rintro e w2 ⟨rfl,hb⟩
      have HB2:=zH (aA HBR.out hb)
      clear hb
      go_wp2_with fail
      refine⟨⟨k+1,by omega,by go_num,by rw[←HS.out,HTV.out],HB2.out⟩,?_⟩
      simp[Go.RowKit.intOf];omega
     ·rw[hh] at hsup
      have HS:=zH (yZ hh)
      have HSU:=zH hsup
      clear hk hh hsup
      go_wp2_with fail
      rw[HWP.out]
      refine(kV HSU _ hs).mono ?_
      rintro e w2 ⟨rfl,hb⟩
      have HB2:=zH (aA HBR.out hb)
      clear hb
      go_wp2_with fail
      try rw[HWP.out]
      refine⟨⟨k+1,by omega,by go_num,?_,HB2.out⟩,?_⟩
      ·rw[←HS.out,HTV.out,HP.out]
       first|rw[IntWalk.wrap64_in _ ⟨by omega,by omega⟩];rfl|rfl
      ·simp[Go.RowKit.intOf];omega
    ·obtain rfl:k=8:=by omega
     have HB2:=zH (aA HB.out HBR.out)
     go_wp2_with fail
     go_ret
     exact⟨jR (by rw[HF.out];rfl),HB2.out⟩
theorem p8{t:Int}{s:ByteArray}{x:bD}(h:fC t s=some x):aC t (gM t s)=true:=by
 obtain⟨h1,h3,_,_,_⟩:=jQ h
 rw[(kM h).1];exact bA h1 h3 x
theorem qT(t:Int)(s:ByteArray):(gM t s).length≤70:=by
 rcases h:fC t s with _|x
 ·rw[(sK h).1];simp
 ·exact(dJ (p8 h)).2
theorem KH{t:Int}{s:ByteArray}{x:bD}(h:fC t s=some x):dO t s=aV (gM t s):=by
 obtain⟨h1,h3,_,_,_⟩:=jQ h
 unfold dO;rw[h,(kM h).1];exact vZ h1 h3 x
theorem nK{t:Int}{s:ByteArray}{x:bD}(h:fC t s=some x):0≤dO t s∧dO t s≤aJ t:=by
 rw[KH h];exact iQ (p8 h)
theorem sO{t:Int}{s:ByteArray}{r:List Int}{b:Bool}(h:Hid (gM t s=r))(h2:Hid (fY t s=b))(w:World)(hs:s.size≤9223372036854775807):
  Calls Tryz.prog 117 #[.int .i64 t,.string s] w (x9 r b w):=by
 have:=PP t s w hs
 rw[h.out,h2.out] at this;exact this
end Go.Proofs.YtfhjcacfchkdpaaGreatDoor
namespace Go.Proofs.YtfhjcacfchkdpaaGreatDoor
open Go.RowKit
abbrev WS:=Nat→Bool
def kY(s q:WS):WS:=fun w=>s w&&q w
def oN(s q:WS):WS:=fun w=>s w&& !q w
def q9(s t:WS):Prop:=∀w,s w=true→t w=true
theorem TN{s t:WS}(h:q9 s t)(q:WS):q9 (kY s q) (kY t q):=fun w hw=>by
 unfold kY at*
 rw[Bool.and_eq_true] at hw⊢
 exact⟨h w hw.1,hw.2⟩
theorem WA{s t:WS}(h:q9 s t)(q:WS):q9 (oN s q) (oN t q):=fun w hw=>by
 unfold oN at*
 rw[Bool.and_eq_true] at hw⊢
 exact⟨h w hw.1,hw.2⟩
theorem P8(s q:WS):q9 (kY s q) s:=fun w hw=>by unfold kY at hw;rw[Bool.and_eq_true] at hw;exact hw.1
theorem T6(s q:WS):q9 (oN s q) s:=fun w hw=>by unfold oN at hw;rw[Bool.and_eq_true] at hw;exact hw.1
theorem TC(s q:WS):kY (kY s q) q=kY s q:=by funext w;simp only[kY];cases s w<;>cases q w<;>rfl
theorem XC(s q:WS):oN (oN s q) q=oN s q:=by funext w;simp only[oN];cases s w<;>cases q w<;>rfl
theorem QH(s p q:WS):kY (kY s p) q=kY (kY s q) p:=by funext w;simp only[kY];cases s w<;>cases p w<;>cases q w<;>rfl
theorem TZ(s p q:WS):oN (oN s p) q=oN (oN s q) p:=by funext w;simp only[oN];cases s w<;>cases p w<;>cases q w<;>rfl
theorem NH(s p q:WS):oN (kY s p) q=kY (oN s q) p:=by funext w;simp only[kY,oN];cases s w<;>cases p w<;>cases q w<;>rfl
section
variable (St:WS→Prop) (asks:List WS)
def oS:Nat→WS→Prop
 |0,s=>St s
 |d+1,s=>St s∨∃q∈asks,oS d (kY s q)∧oS d (oN s q)
def wQ:List WS→WS→Prop
 |[],s=>St s
 |q::qs,s=>wQ qs (kY s q)∧wQ qs (oN s q)
end
section
variable {St:WS→Prop} {asks:List WS}
theorem y6:∀{d:Nat} {s:WS},oS St asks d s→oS St asks (d+1) s
 |0,_,h=> .inl h
 |d+1,s,h=>by
  rcases h with h|⟨q,hq,h1,h2⟩
  ·exact .inl h
  ·exact .inr ⟨q,hq,y6 h1,y6 h2⟩
theorem Y4{d e:Nat}(hde:d≤e){s:WS}(h:oS St asks d s):oS St asks e s:=by
 induction hde with
 |refl=>exact h
 |step _ ih=>exact y6 ih
theorem JN(hdown:∀s t,q9 s t→St t→St s):∀{d:Nat} {s t:WS},q9 s t→oS St asks d t→oS St asks d s
 |0,s,t,hs,h=>hdown s t hs h
 |d+1,s,t,hs,h=>by
  rcases h with h|⟨q,hq,h1,h2⟩
  ·exact .inl (hdown s t hs h)
  ·exact .inr ⟨q,hq,JN hdown (TN hs q) h1,JN hdown (WA hs q) h2⟩
theorem GB{asks' :List WS}(ha:∀q∈asks,q∈asks'):∀{d:Nat} {s:WS},oS St asks d s→oS St asks' d s
 |0,_,h=>h
 |d+1,s,h=>by
  rcases h with h|⟨q,hq,h1,h2⟩
  ·exact .inl h
  ·exact .inr ⟨q,ha q hq,GB ha h1,GB ha h2⟩
theorem nC(hdown:∀s t,q9 s t→St t→St s):∀(qs:List WS) {s:WS},St s→wQ St qs s
 |[],_,h=>h
 |q::qs,s,h=>⟨nC hdown qs (hdown _ s (P8 s q) h),nC hdown qs (hdown _ s (T6 s q) h)⟩
theorem zL:∀(qs:List WS) {s q:WS},q∈qs→wQ St qs (kY s q)→wQ St qs (oN s q)→wQ St qs s
 |[],_,_,hq,_,_=>by cases hq
 |p::ps,s,q,hq,h1,h2=>by
  obtain⟨a1,a2⟩:=h1
  obtain⟨b1,b2⟩:=h2
  by_cases hp:q∈ps
  ·exact⟨zL ps hp (by rw[QH];exact a1) (by rw[NH];exact b1),zL ps hp (by rw[←NH];exact a2) (by rw[TZ];exact b2)⟩
  ·obtain rfl:q=p:=by
    rcases List.mem_cons.1 hq with h|h
    ·exact h
    ·exact absurd h hp
   rw[TC] at a1
   rw[XC] at b2
   exact⟨a1,b2⟩
theorem tU(hdown:∀s t,q9 s t→St t→St s):∀{d:Nat} {s:WS},oS St asks d s→wQ St asks s
 |0,_,h=>nC hdown asks h
 |d+1,s,h=>by
  rcases h with h|⟨q,hq,h1,h2⟩
  ·exact nC hdown asks h
  ·exact zL asks hq (tU hdown h1) (tU hdown h2)
theorem tN:∀(qs:List WS),(∀q∈qs,q∈asks)→∀{s:WS},wQ St qs s→oS St asks qs.length s
 |[],_,_,h=>h
 |q::qs,ha,_,h=> .inr ⟨q,ha q List.mem_cons_self,tN qs (fun p hp=>ha p (List.mem_cons_of_mem _ hp)) h.1,tN qs (fun p hp=>ha p (List.mem_cons_of_mem _ hp)) h.2⟩
theorem XQ(hdown:∀s t,q9 s t→St t→St s){d:Nat}{s:WS}(h:oS St asks d s):oS St asks asks.length s:=
 tN asks (fun _ h=>h) (tU hdown h)
end
def l7(v:Int→Int)(b q:Int):Int:=if 0≤v q∧(b<0∨v q<b) then v q else b
theorem KE(v:Int→Int):∀(qs:List Int) (b:Int),(qs.foldl (l7 v) b=b∨∃q∈qs,qs.foldl (l7 v) b=v q∧0≤v q)∧(∀q∈qs,0≤v q→0≤qs.foldl (l7 v) b∧qs.foldl (l7 v) b≤v q)∧
  (0≤b→0≤qs.foldl (l7 v) b∧qs.foldl (l7 v) b≤b)
 |[],b=>⟨.inl rfl,(fun q h=>absurd h List.not_mem_nil),fun h=>⟨h,Int.le_refl _⟩⟩
 |q::qs,b=>by
  obtain⟨h1,h2,h3⟩:=KE v qs (l7 v b q)
  rw[List.foldl_cons]
  generalize hr:qs.foldl (l7 v) (l7 v b q)=r at*
  unfold l7 at h1 h3
  refine⟨?_,?_,?_⟩
  ·rcases h1 with h1|⟨p,hp,hpv,hp0⟩
   ·by_cases hc:0≤v q∧(b<0∨v q<b)
    ·rw[if_pos hc] at h1;exact .inr ⟨q,List.mem_cons_self,h1,hc.1⟩
    ·rw[if_neg hc] at h1;exact .inl h1
   ·exact .inr ⟨p,List.mem_cons_of_mem _ hp,hpv,hp0⟩
  ·intro p hp hp0
   rcases List.mem_cons.1 hp with rfl|hp
   ·by_cases hc:0≤v p∧(b<0∨v p<b)
    ·rw[if_pos hc] at h3;exact h3 hc.1
    ·rw[if_neg hc] at h3
     have hb:0≤b∧b≤v p:=by
      constructor<;>(apply Classical.byContradiction;intro hn;apply hc;omega)
     have:=h3 hb.1;omega
   ·exact h2 p hp hp0
  ·intro hb
   by_cases hc:0≤v q∧(b<0∨v q<b)
   ·rw[if_pos hc] at h3;have:=h3 hc.1;omega
   ·rw[if_neg hc] at h3;exact h3 hb
theorem JI:∀(i n m:Nat),(n-(n &&& m)).testBit i=(n.testBit i&& !m.testBit i)
 |0,n,m=>by
  have h:= @Nat.and_mod_two_eq_one n m
  have hle:n &&& m≤n:=Nat.and_le_left
  rw[Nat.testBit_zero,Nat.testBit_zero,Nat.testBit_zero]
  generalize n &&& m=k at*
  rw[Bool.eq_iff_iff]
  simp only[decide_eq_true_eq,Bool.and_eq_true,Bool.not_eq_true',decide_eq_false_iff_not]
  omega
 |i+1,n,m=>by
  have h:= @Nat.and_mod_two_eq_one n m
  have hle:n &&& m≤n:=Nat.and_le_left
  have hd:(n &&& m) / 2=n / 2 &&& m / 2:=Nat.and_div_two
  have e:(n-(n &&& m)) / 2=n / 2-(n / 2 &&& m / 2):=by
   rw[←hd]
   generalize n &&& m=k at*
   omega
  rw[Nat.testBit_succ,Nat.testBit_succ,Nat.testBit_succ,e]
  exact JI i (n / 2) (m / 2)
theorem JA{s q:Int}(w:Nat)(hs:0≤s):aI (s-aQ s q) w=(aI s w&& !aI q w):=by
 unfold aI aQ
 have hle:s.toNat &&& q.toNat≤s.toNat:=Nat.and_le_left
 rw[show(s-((s.toNat &&& q.toNat:Nat):Int)).toNat=s.toNat-(s.toNat &&& q.toNat) by omega]
 exact JI w s.toNat q.toNat
theorem YT{s q:Int}(hs:0≤s):0≤s-aQ s q:=by
 unfold aQ
 have hle:s.toNat &&& q.toNat≤s.toNat:=Nat.and_le_left
 omega
end Go.Proofs.YtfhjcacfchkdpaaGreatDoor
namespace Go.Proofs.YtfhjcacfchkdpaaGreatDoor
open Go.RowKit
inductive Ld where
 |one:Ld
 |zero:Ld
 |thing:Nat→Ld
 |no:Ld→Ld
 |pre:Ld→Ld→Ld
 |and_:Ld→Ld→Ld
 |or_:Ld→Ld→Ld
 |if_:Ld→Ld→Ld
 deriving DecidableEq
def aT(t:Int):Ld→Int→Option Int
 | .one,s=>some s
 | .zero,_=>some 0
 | .thing i,s=>some (aQ s (fH t i))
 | .no x,s=>(aT t x s).map fun u=>s-u
 | .pre x y,s=>(aT t x s).bind fun u=>if u=s then aT t y s else none
 | .and_ x y,s=>(aT t x s).bind fun u=>aT t y u
 | .or_ x y,s=>(aT t x s).bind fun u=>(aT t y (s-u)).map fun v=>u+v
 | .if_ x y,s=>(aT t x s).bind fun u=>(aT t y u).map fun v=>s-(u-v)
def cO(t:Int):Ld→Nat→Bool
 | .one,_=>true
 | .zero,_=>false
 | .thing i,w=>aI (fH t i) w
 | .no x,w=> !cO t x w
 | .pre _ y,w=>cO t y w
 | .and_ x y,w=>cO t x w&&cO t y w
 | .or_ x y,w=>cO t x w||cO t y w
 | .if_ x y,w=> !cO t x w||cO t y w
def cK(t:Int):Ld→Nat→Bool
 | .one,_=>true
 | .zero,_=>true
 | .thing _,_=>true
 | .no x,w=>cK t x w
 | .pre x y,w=>cK t x w&&cO t x w&&cK t y w
 | .and_ x y,w=>cK t x w&&(!cO t x w||cK t y w)
 | .or_ x y,w=>cK t x w&&(cO t x w||cK t y w)
 | .if_ x y,w=>cK t x w&&(!cO t x w||cK t y w)
def eY(t:Int)(x:Ld):Int:=(g9 (cO t x) 8:Int)
def rE(s:Int)(p:Nat→Bool):Prop:=∀w,aI s w=true→p w=true
theorem WB{s:Int}(hs:0≤s)(h8:s<256){w:Nat}(h:aI s w=true):w<8:=by
 unfold aI at h
 have h1:s.toNat<2^8:=by omega
 rcases Nat.lt_or_ge w 8 with hw|hw
 ·exact hw
 ·rw[Nat.testBit_lt_two_pow (Nat.lt_of_lt_of_le h1 (Nat.pow_le_pow_right (by omega) hw))] at h
  cases h
theorem G6{t:Int}{x:Ld}{w:Nat}(hw:w<8):aI (eY t x) w=cO t x w:=by
 unfold aI eY
 rw[Int.toNat_natCast,oU,decide_eq_true hw,Bool.true_and]
theorem fL{t:Int}{x:Ld}{s:Int}(hs:0≤s)(h8:s<256)(w:Nat):aI (aQ s (eY t x)) w=(aI s w&&cO t x w):=by
 rw[nB]
 cases h:aI s w
 ·rfl
 ·rw[G6 (WB hs h8 h)]
theorem lP{t:Int}{x:Ld}{s:Int}(hs:0≤s)(h8:s<256)(w:Nat):aI (s-aQ s (eY t x)) w=(aI s w&& !cO t x w):=by
 rw[JA w hs]
 cases h:aI s w
 ·rfl
 ·rw[G6 (WB hs h8 h)]
theorem nH{s q:Int}(hs:0≤s)(h8:s<256):0≤aQ s q∧aQ s q≤s∧aQ s q<256∧0≤s-aQ s q∧s-aQ s q<256:=by
 have h1:=aR s q
 have h2:=lC s q hs
 exact⟨h1,h2,by omega,by omega,by omega⟩
theorem mH{s r:Int}(hs:0≤s)(hr:0≤r)(h:∀w,aI r w=true→aI s w=true):0≤s-r∧∀w,aI (s-r) w=(aI s w&& !aI r w):=by
 have e:r=aQ s r:=eB hr (aR _ _) fun w=>by
  rw[nB]
  cases hw:aI r w
  ·simp
  ·rw[h w hw];rfl
 have:=lC s r hs
 refine⟨by omega,fun w=> ?_⟩
 conv=>lhs;rw[e]
 exact JA w hs
theorem yX(t:Int):∀(x:Ld) (s:Int),0≤s→s<256→(rE s (cK t x)→aT t x s=some (aQ s (eY t x)))∧(¬rE s (cK t x)→aT t x s=none):=by
 intro x
 induction x with
 |one=>
  intro s hs h8
  refine⟨fun _=>congrArg some (eB hs (aR _ _) fun w=> ?_),fun h=>absurd (fun w _=>rfl) h⟩
  rw[fL hs h8];simp[cO]
 |zero=>
  intro s hs h8
  refine⟨fun _=>congrArg some (eB (Int.le_refl 0) (aR _ _) fun w=> ?_),fun h=>absurd (fun w _=>rfl) h⟩
  rw[fL hs h8];simp[cO,aI]
 |thing i=>
  intro s hs h8
  refine⟨fun _=>congrArg some (eB (aR _ _) (aR _ _) fun w=> ?_),fun h=>absurd (fun w _=>rfl) h⟩
  rw[fL hs h8,nB];rfl
 |no x ih=>
  intro s hs h8
  obtain⟨h1,h2⟩:=ih s hs h8
  refine⟨fun h=> ?_,fun h=> ?_⟩
  ·show(aT t x s).map _=_
   rw[h1 h]
   refine congrArg some (eB (nH hs h8).2.2.2.1 (aR _ _) fun w=> ?_)
   rw[lP hs h8,fL hs h8];rfl
  ·show(aT t x s).map _=_
   rw[h2 h];rfl
 |pre x y ihx ihy=>
  intro s hs h8
  obtain⟨h1,h2⟩:=ihx s hs h8
  obtain⟨h3,h4⟩:=ihy s hs h8
  have hcut:aQ s (eY t x)=s↔rE s (cO t x):=by
   refine⟨fun e w hw=> ?_,fun h=>eB (aR _ _) hs fun w=> ?_⟩
   ·rw[←e,fL hs h8,Bool.and_eq_true] at hw
    exact hw.2
   ·rw[fL hs h8]
    cases hw:aI s w
    ·rfl
    ·rw[h w hw];rfl
  refine⟨fun h=> ?_,fun h=> ?_⟩
  ·have g:∀w,aI s w=true→cK t x w=true∧cO t x w=true∧cK t y w=true:=fun w hw=>by
    have:=h w hw
    simp[cK] at this
    exact⟨this.1.1,this.1.2,this.2⟩
   show(aT t x s).bind _=_
   rw[h1 fun w hw=>(g w hw).1,Option.bind_some,if_pos (hcut.2 fun w hw=>(g w hw).2.1),h3 fun w hw=>(g w hw).2.2]
   rfl
  ·show(aT t x s).bind _=_
   by_cases hx:rE s (cK t x)
   ·rw[h1 hx,Option.bind_some]
    by_cases hl:rE s (cO t x)
    ·rw[if_pos (hcut.2 hl)]
     refine h4 fun hy=>h fun w hw=> ?_
     simp[cK,hx w hw,hl w hw,hy w hw]
    ·rw[if_neg fun e=>hl (hcut.1 e)]
   ·rw[h2 hx];rfl
 |and_ x y ihx ihy=>
  intro s hs h8
  obtain⟨h1,h2⟩:=ihx s hs h8
  obtain⟨b1,b2,b3,b4,b5⟩:=nH (q:=eY t x) hs h8
  obtain⟨h3,h4⟩:=ihy (aQ s (eY t x)) b1 b3
  refine⟨fun h=> ?_,fun h=> ?_⟩
  ·show(aT t x s).bind _=_
   rw[h1 fun w hw=>by have:=h w hw;simp[cK] at this;exact this.1,Option.bind_some,h3 fun w hw=> ?_]
   ·refine congrArg some (eB (aR _ _) (aR _ _) fun w=> ?_)
    rw[fL b1 b3,fL hs h8,fL hs h8,Bool.and_assoc];rfl
   ·rw[fL hs h8,Bool.and_eq_true] at hw
    have:=h w hw.1
    simp[cK,hw.2] at this
    exact this.2
  ·show(aT t x s).bind _=_
   by_cases hx:rE s (cK t x)
   ·rw[h1 hx,Option.bind_some]
    refine h4 fun hy=>h fun w hw=> ?_
    have:=hx w hw
    cases hl:cO t x w
    ·simp[cK,this,hl]
    ·have:=hy w (by rw[fL hs h8,hw,hl];rfl)
     simp[cK,hx w hw,hl,this]
   ·rw[h2 hx];rfl
 |or_ x y ihx ihy=>
  intro s hs h8
  obtain⟨h1,h2⟩:=ihx s hs h8
  obtain⟨b1,b2,b3,b4,b5⟩:=nH (q:=eY t x) hs h8
  obtain⟨h3,h4⟩:=ihy (s-aQ s (eY t x)) b4 b5
  refine⟨fun h=> ?_,fun h=> ?_⟩
  ·show(aT t x s).bind _=_
   rw[h1 fun w hw=>by have:=h w hw;simp[cK] at this;exact this.1,Option.bind_some,h3 fun w hw=> ?_]
   ·obtain⟨c1,c2,c3,c4,c5⟩:=nH (q:=eY t y) b4 b5
    obtain⟨d1,d2⟩:=mH (r:=s-aQ s (eY t x)-aQ (s-aQ s (eY t x)) (eY t y)) hs c4 fun w hw=>by
     rw[lP b4 b5,lP hs h8,Bool.and_eq_true,Bool.and_eq_true] at hw
     exact hw.1.1
    show some (aQ s (eY t x)+aQ (s-aQ s (eY t x)) (eY t y))=_
    rw[show aQ s (eY t x)+aQ (s-aQ s (eY t x)) (eY t y)=s-(s-aQ s (eY t x)-aQ (s-aQ s (eY t x)) (eY t y)) by omega]
    refine congrArg some (eB d1 (aR _ _) fun w=> ?_)
    rw[d2,lP b4 b5,lP hs h8,fL hs h8]
    show(aI s w&& !(aI s w&& !cO t x w&& !cO t y w))=(aI s w&&(cO t x w||cO t y w))
    cases aI s w<;>cases cO t x w<;>cases cO t y w<;>rfl
   ·rw[lP hs h8,Bool.and_eq_true] at hw
    have:=h w hw.1
    simp[cK] at this
    simp at hw
    simpa [hw.2] using this.2
  ·show(aT t x s).bind _=_
   by_cases hx:rE s (cK t x)
   ·rw[h1 hx,Option.bind_some,h4 fun hy=>h fun w hw=> ?_]
    ·rfl
    ·cases hl:cO t x w
     ·have:=hy w (by rw[lP hs h8,hw,hl];rfl)
      simp[cK,hx w hw,hl,this]
     ·simp[cK,hx w hw,hl]
   ·rw[h2 hx];rfl
 |if_ x y ihx ihy=>
  intro s hs h8
  obtain⟨h1,h2⟩:=ihx s hs h8
  obtain⟨b1,b2,b3,b4,b5⟩:=nH (q:=eY t x) hs h8
  obtain⟨h3,h4⟩:=ihy (aQ s (eY t x)) b1 b3
  refine⟨fun h=> ?_,fun h=> ?_⟩
  ·show(aT t x s).bind _=_
   rw[h1 fun w hw=>by have:=h w hw;simp[cK] at this;exact this.1,Option.bind_some,h3 fun w hw=> ?_]
   ·obtain⟨c1,c2,c3,c4,c5⟩:=nH (q:=eY t y) b1 b3
    obtain⟨d1,d2⟩:=mH (r:=aQ s (eY t x)-aQ (aQ s (eY t x)) (eY t y)) hs c4 fun w hw=>by
     rw[lP b1 b3,fL hs h8,Bool.and_eq_true,Bool.and_eq_true] at hw
     exact hw.1.1
    refine congrArg some (eB d1 (aR _ _) fun w=> ?_)
    rw[d2,lP b1 b3,fL hs h8,fL hs h8]
    show(aI s w&& !(aI s w&&cO t x w&& !cO t y w))=(aI s w&&(!cO t x w||cO t y w))
    cases aI s w<;>cases cO t x w<;>cases cO t y w<;>rfl
   ·rw[fL hs h8,Bool.and_eq_true] at hw
    have:=h w hw.1
    simp[cK,hw.2] at this
    exact this.2
  ·show(aT t x s).bind _=_
   by_cases hx:rE s (cK t x)
   ·rw[h1 hx,Option.bind_some,h4 fun hy=>h fun w hw=> ?_]
    ·rfl
    ·cases hl:cO t x w
     ·simp[cK,hx w hw,hl]
     ·have:=hy w (by rw[fL hs h8,hw,hl];rfl)
      simp[cK,hx w hw,hl,this]
   ·rw[h2 hx];rfl
def GO(m:Nat)(x y:Ld):Option Ld:=if m=38 then some (.and_ x y) else if m=124 then some (.or_ x y) else if m=62 then some (.if_ x y) else none
def bJ(t:Int):Nat→List Nat→Option (Ld×List Nat)
 |0,_=>none
 |_+1,[]=>none
 |n+1,c::l=>
  if c=49 then some (.one,l) else if c=48 then some (.zero,l)
  else if 97≤c∧(c:Int)-97<t then some (.thing (c-97),l)
  else if c=33 then(bJ t n l).map fun p=>(.no p.1,p.2)
  else if c=91 then
   match bJ t n l with
   |some (x,m::l2)=>if m=93 then(bJ t n l2).map fun p=>(.pre x p.1,p.2) else none
   |_=>none
  else if c=40 then
   match bJ t n l with
   |some (x,m::l2)=>
    match bJ t n l2 with
    |some (y,e::r)=>if e=41 then(GO m x y).map fun z=>(z,r) else none
    |_=>none
   |_=>none
  else none
theorem uK(t:Int):∀(n:Nat) (l:List Nat) (x:Ld) (r:List Nat),bJ t n l=some (x,r)→r.length<l.length
 |0,_,_,_,h=>by cases h
 |_+1,[],_,_,h=>by cases h
 |n+1,c::l,x,r,h=>by
  have ih:=uK t n
  unfold bJ at h
  split at h
  ·cases h;simp
  split at h
  ·cases h;simp
  split at h
  ·cases h;simp
  split at h
  ·obtain⟨⟨y,q⟩,hy,e⟩:=Option.map_eq_some_iff.1 h
   cases e;have:=ih _ _ _ hy;simp;omega
  split at h
  ·split at h
   ·rename_i x1 m l2 h1
    split at h
    ·obtain⟨⟨y,q⟩,hy,e⟩:=Option.map_eq_some_iff.1 h
     cases e
     have:=ih _ _ _ h1;have:=ih _ _ _ hy;simp at*;omega
    ·cases h
   ·cases h
  split at h
  ·split at h
   ·rename_i x1 m l2 h1
    split at h
    ·rename_i y1 e r1 h2
     split at h
     ·obtain⟨z,hz,e2⟩:=Option.map_eq_some_iff.1 h
      cases e2
      have:=ih _ _ _ h1;have:=ih _ _ _ h2;simp at*;omega
     ·cases h
    ·cases h
   ·cases h
  ·cases h
def mD(t:Int)(l:List Nat):Option Ld:=
 if 1≤t∧t≤3∧l.length≤60 then(match bJ t l.length l with|some (x,[])=>some x|_=>none) else none
end Go.Proofs.YtfhjcacfchkdpaaGreatDoor
namespace Go.Proofs.YtfhjcacfchkdpaaGreatDoor
open Go.RowKit
def eW(t:Int)(x:Ld):Int:=(g9 (cK t x) (aP t):Int)
def kQ(t:Int)(x:Ld):Int:=(g9 (fun w=>cK t x w&&cO t x w) (aP t):Int)
theorem BW{a b:Int}{w:Nat}:aI (fM a b) w=(aI a w||aI b w):=by
 unfold aI fM
 rw[Int.toNat_natCast,Nat.testBit_or]
section
variable {t:Int} (h1:1≤t) (h3:t≤3)
include h1 h3
theorem YZ:aP t≤8:=by
 have:t=1∨t=2∨t=3:=by omega
 rcases this with rfl|rfl|rfl<;>decide
theorem rK(w:Nat):aI (aJ t) w=decide (w<aP t):=by
 have h:=(o3 h1 h3).2
 have hp:1≤2^aP t:=Nat.one_le_two_pow
 unfold aI
 rw[show(aJ t).toNat=2^aP t-1 by omega,Nat.testBit_two_pow_sub_one]
theorem jY(p:Nat→Bool):0≤(g9 p (aP t):Int)∧(g9 p (aP t):Int)≤aJ t:=by
 have h:=(o3 h1 h3).2
 have hl:=r4 p (aP t)
 exact⟨Int.natCast_nonneg _,by omega⟩
omit h1 h3 in
theorem iB(p:Nat→Bool)(w:Nat):aI (g9 p (aP t):Int) w=(decide (w<aP t)&&p w):=by
 unfold aI
 rw[Int.toNat_natCast,oU]
theorem FI(x:Ld){s:Int}(hs:0≤s)(hs2:s≤aJ t):aB s (eW t x)=true↔rE s (cK t x):=by
 rw[eA hs]
 refine⟨fun h w hw=> ?_,fun h w hw=> ?_⟩
 ·have:=h w hw
  unfold eW at this
  rw[iB,Bool.and_eq_true] at this
  exact this.2
 ·unfold eW
  rw[iB,h w hw,decide_eq_true (fX h1 h3 hs hs2 hw)]
  rfl
theorem VE(x:Ld){s:Int}(hs:0≤s)(hs2:s≤aJ t):aT t x s=if aB s (eW t x)=true then some (aQ s (kQ t x)) else none:=by
 have hal:=(bH t).2
 obtain⟨g1,g2⟩:=yX t x s hs (by omega)
 by_cases h:aB s (eW t x)=true
 ·have hn:=(FI h1 h3 x hs hs2).1 h
  rw[if_pos h,g1 hn]
  refine congrArg some (eB (aR _ _) (aR _ _) fun w=> ?_)
  rw[fL hs (by omega),nB]
  cases hw:aI s w
  ·rfl
  ·unfold kQ
   rw[iB,decide_eq_true (fX h1 h3 hs hs2 hw),hn w hw]
   simp
 ·rw[if_neg h,g2 fun hn=>h ((FI h1 h3 x hs hs2).2 hn)]
theorem YR(x:Ld){s m:Int}(hs:0≤s)(hs2:s≤aJ t)(hn:aB s (eW t x)=true):aT t x (aQ s m)=some (aQ (aQ s m) (aQ s (kQ t x))):=by
 have hb1:=aR s m
 have hb2:=lC s m hs
 have hn2:aB (aQ s m) (eW t x)=true:=by
  rw[eA hb1]
  intro w hw
  rw[nB,Bool.and_eq_true] at hw
  exact(eA hs).1 hn w hw.1
 rw[VE h1 h3 x hb1 (by omega),if_pos hn2]
 refine congrArg some (eB (aR _ _) (aR _ _) fun w=> ?_)
 simp only[nB]
 cases aI s w<;>cases aI m w<;>simp
omit h1 h3 in
theorem Y3(x:Ld):eW t (.no x)=eW t x:=rfl
theorem LM:kQ t (.thing 0)=fH t 0:=by
 have hl:=oQ h1 h3 0
 have hb:=aZ hl
 refine eB (jY h1 h3 _).1 hb.2.2.1 fun w=> ?_
 unfold kQ
 rw[iB]
 cases hw:aI (fH t 0) w
 ·simp[cO,hw]
 ·rw[decide_eq_true (fX h1 h3 hb.2.2.1 hb.2.2.2.1 hw)];simp[cK,cO,hw]
theorem YD(x:Ld):eW t (.and_ (.thing 0) x)=fM (aJ t-kQ t (.thing 0)) (eW t x)∧eW t (.if_ (.thing 0) x)=fM (aJ t-kQ t (.thing 0)) (eW t x)∧eW t (.and_ x (.thing 0))=eW t x:=by
 have hal:=bH t
 have hr:=jY h1 h3 (cK t x)
 have hb:=aZ (oQ h1 h3 0)
 obtain⟨d1,d2⟩:=mH (r:=fH t 0) hal.1 hb.2.2.1 fun w hw=>by rw[rK h1 h3,decide_eq_true (fX h1 h3 hb.2.2.1 hb.2.2.2.1 hw)]
 have key:∀w,(decide (w<aP t)&&cK t (.and_ (.thing 0) x) w)=aI (fM (aJ t-kQ t (.thing 0)) (eW t x)) w:=fun w=>by
  rw[LM h1 h3,BW,d2,rK h1 h3]
  unfold eW
  rw[iB]
  simp only[cK,cO,Bool.true_and]
  cases decide (w<aP t)<;>cases aI (fH t 0) w<;>rfl
 refine⟨eB (jY h1 h3 _).1 (gB _ _) fun w=> ?_,eB (jY h1 h3 _).1 (gB _ _) fun w=> ?_,eB (jY h1 h3 _).1 hr.1 fun w=> ?_⟩
 ·rw[←key];exact iB _ w
 ·rw[←key];exact iB _ w
 ·rw[show aI (eW t (.and_ x (.thing 0))) w=_ from iB _ w,show aI (eW t x) w=_ from iB _ w]
  simp[cK]
theorem XT(x:Ld):aB (kQ t x) (eW t x)=true∧kQ t (.no x)=eW t x-kQ t x:=by
 have hl:=jY h1 h3 (fun w=>cK t x w&&cO t x w)
 have hn:=jY h1 h3 (cK t x)
 have hsub:∀w,aI (kQ t x) w=true→aI (eW t x) w=true:=fun w hw=>by
  unfold kQ at hw
  unfold eW
  rw[iB] at hw⊢
  simp only[Bool.and_eq_true] at hw⊢
  exact⟨hw.1,hw.2.1⟩
 refine⟨(eA hl.1).2 hsub,?_⟩
 obtain⟨d1,d2⟩:=mH (s:=eW t x) (r:=kQ t x) hn.1 hl.1 hsub
 refine eB (jY h1 h3 _).1 d1 fun w=> ?_
 rw[d2,show aI (kQ t (.no x)) w=_ from iB _ w,show aI (eW t x) w=_ from iB _ w,show aI (kQ t x) w=_ from iB _ w]
 simp only[cK,cO]
 cases decide (w<aP t)<;>cases cK t x w<;>cases cO t x w<;>rfl
theorem XP(x:Ld)(h:eW t x=aJ t):eW t (.and_ x (.pre x (.thing 0)))=aJ t:=by
 refine eB (jY h1 h3 _).1 (bH t).1 fun w=> ?_
 have hw:=congrArg (fun s=>aI s w) h
 simp only[show aI (eW t x) w=_ from iB _ w,rK h1 h3] at hw
 rw[show aI (eW t (.and_ x (.pre x (.thing 0)))) w=_ from iB _ w,rK h1 h3]
 simp only[cK]
 revert hw
 cases decide (w<aP t)<;>cases cK t x w<;>cases cO t x w<;>simp
end
end Go.Proofs.YtfhjcacfchkdpaaGreatDoor
namespace Go.Proofs.YtfhjcacfchkdpaaGreatDoor
open Go.RowKit
theorem j9{t:Int}{x:Ld}{s u:Int}(hs:0≤s)(h8:s<256)(h:aT t x s=some u):0≤u∧u≤s:=by
 obtain⟨g1,g2⟩:=yX t x s hs h8
 by_cases hn:rE s (cK t x)
 ·rw[g1 hn] at h
  cases h
  exact⟨aR _ _,lC _ _ hs⟩
 ·rw[g2 hn] at h;cases h
def rZ(t:Int)(s:ByteArray):Option Ld:=mD t (aG s)
def cY(t:Int)(s:ByteArray):Bool:=(rZ t s).isSome
def eJ(t v:Int)(s:ByteArray):Option Int:=match rZ t s with|some x=>if aO t v=true then aT t x v else none|none=>none
theorem LI{a b:Int}(ha:0≤a)(ha2:a<256)(hb:0≤b)(hb2:b<256):0≤bits .andNot .i64 a b∧∀v,aI (bits .andNot .i64 a b) v=(aI a v&& !aI b v):=by
 obtain⟨a,rfl⟩:∃m:Nat,a=m:=⟨a.toNat,by omega⟩
 obtain⟨b,rfl⟩:∃m:Nat,b=m:=⟨b.toNat,by omega⟩
 have e:bits .andNot .i64 (a:Int) (b:Int)=((a &&& (2^64-(b+1)):Nat):Int):=by
  have hx:a &&& (2^64-(b+1))≤a:=Nat.and_le_left
  show IntKind.i64.wrap ((BitVec.ofInt 64 (a:Int) &&& ~~~BitVec.ofInt 64 (b:Int)).toNat:Int)=_
  rw[BitVec.toNat_and,BitVec.toNat_not,BitVec.ofInt_natCast,BitVec.ofInt_natCast,BitVec.toNat_ofNat,BitVec.toNat_ofNat,Nat.mod_eq_of_lt (by omega),Nat.mod_eq_of_lt (by omega),IntKind.wrap_i64,
   show 2^64-1-b=2^64-(b+1) by omega]
  omega
 rw[e]
 refine⟨Int.natCast_nonneg _,fun v=> ?_⟩
 unfold aI
 rw[Int.toNat_natCast,Int.toNat_natCast,Int.toNat_natCast,Nat.testBit_and,Nat.testBit_two_pow_sub_succ (show b<2^64 by omega)]
 by_cases hv:v<64
 ·simp[hv]
 ·have:a.testBit v=false:=Nat.testBit_lt_two_pow (by
   have:2^8≤2^v:=Nat.pow_le_pow_right (by omega) (by omega)
   omega)
  simp[this]
theorem q6{t:Int}{x:Ld}{s u:Int}(hs:0≤s)(h8:s<256)(h:aT t x s=some u):0≤u∧u≤s∧∀w,aI u w=true→aI s w=true:=by
 obtain⟨h1,h2⟩:=j9 hs h8 h
 obtain⟨g1,g2⟩:=yX t x s hs h8
 refine⟨h1,h2,fun w hw=> ?_⟩
 by_cases hn:rE s (cK t x)
 ·rw[g1 hn] at h
  cases h
  rw[fL hs h8,Bool.and_eq_true] at hw
  exact hw.1
 ·rw[g2 hn] at h;cases h
theorem zE{t:Int}{x:Ld}{s u:Int}(hs:0≤s)(h8:s<256)(h:aT t x s=some u):bits .andNot .i64 s u=s-u∧0≤u∧u≤s:=by
 obtain⟨h1,h2,h3⟩:=q6 hs h8 h
 obtain⟨a1,a2⟩:=LI hs h8 h1 (by omega)
 obtain⟨b1,b2⟩:=mH hs h1 h3
 exact⟨eB a1 b1 fun w=>by rw[a2,b2],h1,h2⟩
theorem GF{u v:Int}(hu:0≤u)(hu8:u<256)(hv:0≤v)(hv8:v<256)(h:∀w,aI u w=true→aI v w=false):bits .or .i64 u v=u+v:=by
 rw[B0 u v hu (by omega) hv (by omega)]
 obtain⟨b1,b2⟩:=mH (s:=fM u v) (r:=u) (gB _ _) hu fun w hw=>by rw[BW,hw];rfl
 have:fM u v-u=v:=eB b1 hv fun w=>by
  rw[b2,BW]
  cases hw:aI u w
  ·simp
  ·rw[h w hw];rfl
 omega
theorem V3{t:Int}{x y:Ld}{s u v:Int}(hs:0≤s)(h8:s<256)(h:aT t x s=some u)(h2:aT t y (s-u)=some v):bits .or .i64 u v=u+v:=by
 obtain⟨a1,a2,a3⟩:=q6 hs h8 h
 obtain⟨b1,b2,b3⟩:=q6 (by omega) (by omega) h2
 obtain⟨c1,c2⟩:=mH hs a1 a3
 refine GF a1 (by omega) b1 (by omega) fun w hw=> ?_
 cases hv:aI v w
 ·rfl
 ·have:=b3 w hv
  rw[c2,hw] at this
  simp at this
theorem VZ{t:Int}{x y:Ld}{s u v:Int}(hs:0≤s)(h8:s<256)(h:aT t x s=some u)(h2:aT t y u=some v):bits .or .i64 (s-u) v=s-(u-v):=by
 obtain⟨a1,a2,a3⟩:=q6 hs h8 h
 obtain⟨b1,b2,b3⟩:=q6 (by omega) (by omega) h2
 obtain⟨c1,c2⟩:=mH hs a1 a3
 rw[GF c1 (by omega) b1 (by omega) fun w hw=> ?_]
 ·omega
 ·cases hv:aI v w
  ·rfl
  ·rw[c2,b3 w hv] at hw
   simp at hw
end Go.Proofs.YtfhjcacfchkdpaaGreatDoor
