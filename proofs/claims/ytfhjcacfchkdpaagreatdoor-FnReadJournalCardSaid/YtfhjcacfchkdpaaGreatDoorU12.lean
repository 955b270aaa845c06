/-
  What the proofs of this seat's statements share (Sho, Shp, Shq, Spc).
-/
import Derived.Test.YtfhjcacfchkdpaaGreatDoorU11
set_option maxRecDepth 100000
set_option maxHeartbeats 32000000
namespace Go.Proofs.YtfhjcacfchkdpaaGreatDoor
open Go.RowKit
def kR(t:Int)(s:ByteArray)(x:bD)(rest:List Nat)(m:Nat)(w:World)(e:Ending)(w' :World):Prop:=
 ∃a2:Nat,e= .returned (.tuple #[.bool (aN t x m),.int .i64 a2])∧a2≤s.size∧(aG s).drop a2=rest∧∃q,w' =w.drewN q
def bW(f:Nat→Bool)(k:Nat):Bool:=(List.range k).all f
theorem iX(f:Nat→Bool)(k:Nat):bW f (k+1)=(bW f k&&f k):=by
 unfold bW;rw[List.range_succ,List.all_append];simp
theorem QT(m k:Nat):aI (m:Int) k=decide (m / 2^k%2=1):=by
 unfold aI;rw[Int.toNat_natCast,Nat.testBit_eq_decide_div_mod_eq]
theorem iT{m k:Nat}{b:Bool}(h:aI (m:Int) k=b):(((m:Int) / 2^k).tmod 2==0)= !b:=by
 have e4:(2:Int)^k=((2^k:Nat):Int):=by push_cast;rfl
 rw[e4,wX]
 rw[QT] at h
 subst h
 rcases Nat.mod_two_eq_zero_or_one (m / 2^k) with h|h<;>rw[h]<;>rfl
theorem pI(i k:Nat)(d:Int)(hd:d=((2^i:Nat):Int)):((k:Int) / d%2==1)=fR (97+i) k:=by
 subst hd
 rw[show(k:Int) / ((2^i:Nat):Int)%2=((k / 2^i%2:Nat):Int) by push_cast;rfl]
 unfold fR
 rw[decide_eq_false (by omega:¬97+i=49),decide_eq_false (by omega:¬97+i=48),show 97+i-97=i by omega]
 rcases Nat.mod_two_eq_zero_or_one (k / 2^i) with h|h<;>rw[h]<;>rfl
theorem tP(c:Nat):∀n w,(bV c n).testBit w=(decide (w<n)&&fR c w)
 |0,w=>by simp[bV]
 |n+1,w=>by
  have ih:=tP c n w
  unfold bV
  rw[Nat.testBit_or,ih]
  by_cases e:w=n
  ·subst e
   cases h:fR c w
   ·simp
   ·simp
  ·have h2:(if fR c n=true then 2^n else 0).testBit w=false:=by
    split
    ·rw[Nat.testBit_two_pow];simp;omega
    ·simp
   rw[h2]
   cases fR c w
   ·simp
   ·simp;omega
theorem O1{t:Int}{i m:Nat}(h1:1≤t)(h3:t≤3)(hi:(i:Int)<t)(hm:(m:Int)≤aJ t):aN t (.thing i) m=bW (fun w=> !aI (m:Int) w||fR (97+i) w) (aP t):=by
 show aB (m:Int) (fH t i)=_
 rw[←nF h1 h3 hi,Bool.eq_iff_iff,dA (by omega)]
 unfold bW
 rw[List.all_eq_true]
 constructor
 ·intro h w hw
  have:=h w
  rw[Int.toNat_natCast,Int.toNat_natCast,tP] at this
  unfold aI
  rw[Int.toNat_natCast]
  cases hb:m.testBit w
  ·rfl
  ·have:=this hb
   rw[Bool.and_eq_true] at this
   rw[this.2];rfl
 ·intro h w hb
  have hlt:=fX h1 h3 (s:=(m:Int)) (by omega) hm (w:=w) hb
  have:=h w (List.mem_range.2 hlt)
  unfold aI at this
  rw[hb] at this
  rw[Int.toNat_natCast,tP,decide_eq_true hlt]
  simpa using this
theorem TH(t:Int)(s:ByteArray)(at_ m:Nat)(w:World)(hs:s.size≤1048576)(hat:at_<s.size)(hc:s[at_].toNat=49):Calls Tryz.prog 128 #[.int .i64 t,.string s,.int .i64 at_,.int .i64 m] w (kR t s .one ((aG s).drop (at_+1)) m w):=by
 have hd:(at_:Int)<(s.size:Int):=by omega
 have hd0:(0:Int)≤(at_:Int):=by omega
 go_enter Tryz.func128,Tryz.ntmps128
 go_wp2_with fail
 go_ret2
 exact⟨at_+1,rfl,hat,rfl,0,rfl⟩
theorem PK(t:Int)(s:ByteArray)(at_ m:Nat)(w:World)(hs:s.size≤1048576)(hat:at_<s.size)(hc:s[at_].toNat=48):Calls Tryz.prog 128 #[.int .i64 t,.string s,.int .i64 at_,.int .i64 m] w (kR t s .zero ((aG s).drop (at_+1)) m w):=by
 have hd:(at_:Int)<(s.size:Int):=by omega
 have hd0:(0:Int)≤(at_:Int):=by omega
 have he:((m:Int)==0)=aN t .zero m:=rfl
 obtain⟨b,HB⟩:∃b,Hid (aN t .zero m=b):=⟨_,rfl⟩
 rw[HB.out] at he
 go_enter Tryz.func128,Tryz.ntmps128
 go_wp2_with fail
 go_ret2
 exact⟨at_+1,by rw[HB.out];rfl,hat,rfl,0,rfl⟩
theorem OD(t:Int)(s:ByteArray)(at_ m:Nat)(w:World)(hs:s.size≤1048576)(i:Nat)(hat:at_<s.size)(hc:s[at_].toNat=97+i)(h1:1≤t)(h3:t≤3)(hi:(i:Int)<t)(hm:(m:Int)≤aJ t):
  Calls Tryz.prog 128 #[.int .i64 t,.string s,.int .i64 at_,.int .i64 m] w (kR t s (.thing i) ((aG s).drop (at_+1)) m w):=by
 have hd:(at_:Int)<(s.size:Int):=by omega
 have hd0:(0:Int)≤(at_:Int):=by omega
 have HF:=zH (O1 h1 h3 hi hm)
 have h:(t=1∧i=0)∨(t=2∧i=0)∨(t=2∧i=1)∨(t=3∧i=0)∨(t=3∧i=1)∨(t=3∧i=2):=by omega
 have hm256:m<256:=by have:=(bH t).2;omega
 clear h1 h3 hi hm
 rcases h with⟨rfl,rfl⟩|⟨rfl,rfl⟩|⟨rfl,rfl⟩|⟨rfl,rfl⟩|⟨rfl,rfl⟩|⟨rfl,rfl⟩
 ·have hc:s[at_].toNat=97:=hc
  have HF:Hid (aN 1 (.thing 0) m=bW (fun w=> !aI (m:Int) w||fR 97 w) 2):=HF.out
  obtain⟨F,HFF⟩:∃F:Nat→Bool,Hid ((fun w=> !aI (m:Int) w||fR 97 w)=F):=⟨_,rfl⟩
  rw[HFF.out] at HF
  have HS:=zH (iX F)
  go_enter Tryz.func128,Tryz.ntmps128
  go_wp2_with fail
  go_loop [10,11] (fun v i=>∃k:Nat,k≤2∧i= .int .i64 k∧v= .bool (bW F k)) (fun _ i=>2-(Go.RowKit.intOf i).toNat)
  case atStart=>exact⟨0,Nat.zero_le _,rfl,rfl⟩
  case round=>
   obtain⟨k,hk,rfl,rfl⟩:=hrel
   by_cases hlt:k<2
   ·have HK:=zH (HS.out k)
    have HW:=zH (congrFun HFF.out k)
    obtain⟨y,HY⟩:∃y,Hid (bW F k=y):=⟨_,rfl⟩
    obtain⟨hb,HHB⟩:∃y,Hid (aI (m:Int) k=y):=⟨_,rfl⟩
    have hwk:=iT HHB.out
    have h8:k=0∨k=1∨k=2∨k=3∨k=4∨k=5∨k=6∨k=7:=by omega
    rw[HY.out]
    clear hk
    cases y
    ·clear hwk h8
     go_wp2_with fail
     refine⟨⟨k+1,by omega,by go_num,by rw[HK.out,HY.out];rfl⟩,?_⟩
     simp[Go.RowKit.intOf];omega
    ·cases hb
     ·have hwk:(((m:Int) / 2^k).tmod 2==0)=true:=hwk
      clear h8
      go_wp2_with fail
      refine⟨⟨k+1,by omega,by go_num,by rw[HK.out,HY.out,←HW.out,HHB.out];rfl⟩,?_⟩
      simp[Go.RowKit.intOf];omega
     ·have hwk:(((m:Int) / 2^k).tmod 2==0)=false:=hwk
      obtain⟨v,HV⟩:∃v,Hid (fR 97 k=v):=⟨_,rfl⟩
      have hb1:((k:Int) / 1%2==1)=v:=by rw[←HV.out];exact pI 0 k 1 rfl
      try rw[Int.ediv_one] at hb1
      clear h8
      go_wp2_with fail
      refine⟨⟨k+1,by omega,by go_num,by rw[HK.out,HY.out,←HW.out,HHB.out,HV.out];rfl⟩,?_⟩
      simp[Go.RowKit.intOf];omega
   ·obtain rfl:k=2:=by omega
    go_wp2_with fail
    go_ret2
    exact⟨at_+1,by rw[HF.out];rfl,hat,rfl,0,rfl⟩
 ·have hc:s[at_].toNat=97:=hc
  have HF:Hid (aN 2 (.thing 0) m=bW (fun w=> !aI (m:Int) w||fR 97 w) 4):=HF.out
  obtain⟨F,HFF⟩:∃F:Nat→Bool,Hid ((fun w=> !aI (m:Int) w||fR 97 w)=F):=⟨_,rfl⟩
  rw[HFF.out] at HF
  have HS:=zH (iX F)
  go_enter Tryz.func128,Tryz.ntmps128
  go_wp2_with fail
  go_loop [10,11] (fun v i=>∃k:Nat,k≤4∧i= .int .i64 k∧v= .bool (bW F k)) (fun _ i=>4-(Go.RowKit.intOf i).toNat)
  case atStart=>exact⟨0,Nat.zero_le _,rfl,rfl⟩
  case round=>
   obtain⟨k,hk,rfl,rfl⟩:=hrel
   by_cases hlt:k<4
   ·have HK:=zH (HS.out k)
    have HW:=zH (congrFun HFF.out k)
    obtain⟨y,HY⟩:∃y,Hid (bW F k=y):=⟨_,rfl⟩
    obtain⟨hb,HHB⟩:∃y,Hid (aI (m:Int) k=y):=⟨_,rfl⟩
    have hwk:=iT HHB.out
    have h8:k=0∨k=1∨k=2∨k=3∨k=4∨k=5∨k=6∨k=7:=by omega
    rw[HY.out]
    clear hk
    cases y
    ·clear hwk h8
     go_wp2_with fail
     refine⟨⟨k+1,by omega,by go_num,by rw[HK.out,HY.out];rfl⟩,?_⟩
     simp[Go.RowKit.intOf];omega
    ·cases hb
     ·have hwk:(((m:Int) / 2^k).tmod 2==0)=true:=hwk
      clear h8
      go_wp2_with fail
      refine⟨⟨k+1,by omega,by go_num,by rw[HK.out,HY.out,←HW.out,HHB.out];rfl⟩,?_⟩
      simp[Go.RowKit.intOf];omega
     ·have hwk:(((m:Int) / 2^k).tmod 2==0)=false:=hwk
      obtain⟨v,HV⟩:∃v,Hid (fR 97 k=v):=⟨_,rfl⟩
      have hb1:((k:Int) / 1%2==1)=v:=by rw[←HV.out];exact pI 0 k 1 rfl
      try rw[Int.ediv_one] at hb1
      clear h8
      go_wp2_with fail
      refine⟨⟨k+1,by omega,by go_num,by rw[HK.out,HY.out,←HW.out,HHB.out,HV.out];rfl⟩,?_⟩
      simp[Go.RowKit.intOf];omega
   ·obtain rfl:k=4:=by omega
    go_wp2_with fail
    go_ret2
    exact⟨at_+1,by rw[HF.out];rfl,hat,rfl,0,rfl⟩
 ·have hc:s[at_].toNat=98:=hc
  have HF:Hid (aN 2 (.thing 1) m=bW (fun w=> !aI (m:Int) w||fR 98 w) 4):=HF.out
  obtain⟨F,HFF⟩:∃F:Nat→Bool,Hid ((fun w=> !aI (m:Int) w||fR 98 w)=F):=⟨_,rfl⟩
  rw[HFF.out] at HF
  have HS:=zH (iX F)
  go_enter Tryz.func128,Tryz.ntmps128
  go_wp2_with fail
  go_loop [10,11] (fun v i=>∃k:Nat,k≤4∧i= .int .i64 k∧v= .bool (bW F k)) (fun _ i=>4-(Go.RowKit.intOf i).toNat)
  case atStart=>exact⟨0,Nat.zero_le _,rfl,rfl⟩
  case round=>
   obtain⟨k,hk,rfl,rfl⟩:=hrel
   by_cases hlt:k<4
   ·have HK:=zH (HS.out k)
    have HW:=zH (congrFun HFF.out k)
    obtain⟨y,HY⟩:∃y,Hid (bW F k=y):=⟨_,rfl⟩
    obtain⟨hb,HHB⟩:∃y,Hid (aI (m:Int) k=y):=⟨_,rfl⟩
    have hwk:=iT HHB.out
    have h8:k=0∨k=1∨k=2∨k=3∨k=4∨k=5∨k=6∨k=7:=by omega
    rw[HY.out]
    clear hk
    cases y
    ·clear hwk h8
     go_wp2_with fail
     refine⟨⟨k+1,by omega,by go_num,by rw[HK.out,HY.out];rfl⟩,?_⟩
     simp[Go.RowKit.intOf];omega
    ·cases hb
     ·have hwk:(((m:Int) / 2^k).tmod 2==0)=true:=hwk
      clear h8
      go_wp2_with fail
      refine⟨⟨k+1,by omega,by go_num,by rw[HK.out,HY.out,←HW.out,HHB.out];rfl⟩,?_⟩
      simp[Go.RowKit.intOf];omega
     ·have hwk:(((m:Int) / 2^k).tmod 2==0)=false:=hwk
      obtain⟨v,HV⟩:∃v,Hid (fR 98 k=v):=⟨_,rfl⟩
      have hb1:((k:Int) / 2%2==1)=v:=by rw[←HV.out];exact pI 1 k 2 rfl
      try rw[Int.ediv_one] at hb1
      clear h8
      go_wp2_with fail
      refine⟨⟨k+1,by omega,by go_num,by rw[HK.out,HY.out,←HW.out,HHB.out,HV.out];rfl⟩,?_⟩
      simp[Go.RowKit.intOf];omega
   ·obtain rfl:k=4:=by omega
    go_wp2_with fail
    go_ret2
    exact⟨at_+1,by rw[HF.out];rfl,hat,rfl,0,rfl⟩
 ·have hc:s[at_].toNat=97:=hc
  have HF:Hid (aN 3 (.thing 0) m=bW (fun w=> !aI (m:Int) w||fR 97 w) 8):=HF.out
  obtain⟨F,HFF⟩:∃F:Nat→Bool,Hid ((fun w=> !aI (m:Int) w||fR 97 w)=F):=⟨_,rfl⟩
  rw[HFF.out] at HF
  have HS:=zH (iX F)
  go_enter Tryz.func128,Tryz.ntmps128
  go_wp2_with fail
  go_loop [10,11] (fun v i=>∃k:Nat,k≤8∧i= .int .i64 k∧v= .bool (bW F k)) (fun _ i=>8-(Go.RowKit.intOf i).toNat)
  case atStart=>exact⟨0,Nat.zero_le _,rfl,rfl⟩
  case round=>
   obtain⟨k,hk,rfl,rfl⟩:=hrel
   by_cases hlt:k<8
   ·have HK:=zH (HS.out k)
    have HW:=zH (congrFun HFF.out k)
    obtain⟨y,HY⟩:∃y,Hid (bW F k=y):=⟨_,rfl⟩
    obtain⟨hb,HHB⟩:∃y,Hid (aI (m:Int) k=y):=⟨_,rfl⟩
    have hwk:=iT HHB.out
    have h8:k=0∨k=1∨k=2∨k=3∨k=4∨k=5∨k=6∨k=7:=by omega
    rw[HY.out]
    clear hk
    cases y
    ·clear hwk h8
     go_wp2_with fail
     refine⟨⟨k+1,by omega,by go_num,by rw[HK.out,HY.out];rfl⟩,?_⟩
     simp[Go.RowKit.intOf];omega
    ·cases hb
     ·have hwk:(((m:Int) / 2^k).tmod 2==0)=true:=hwk
      clear h8
      go_wp2_with fail
      refine⟨⟨k+1,by omega,by go_num,by rw[HK.out,HY.out,←HW.out,HHB.out];rfl⟩,?_⟩
      simp[Go.RowKit.intOf];omega
     ·have hwk:(((m:Int) / 2^k).tmod 2==0)=false:=hwk
      obtain⟨v,HV⟩:∃v,Hid (fR 97 k=v):=⟨_,rfl⟩
      have hb1:((k:Int) / 1%2==1)=v:=by rw[←HV.out];exact pI 0 k 1 rfl
      try rw[Int.ediv_one] at hb1
      clear h8
      go_wp2_with fail
      refine⟨⟨k+1,by omega,by go_num,by rw[HK.out,HY.out,←HW.out,HHB.out,HV.out];rfl⟩,?_⟩
      simp[Go.RowKit.intOf];omega
   ·obtain rfl:k=8:=by omega
    go_wp2_with fail
    go_ret2
    exact⟨at_+1,by rw[HF.out];rfl,hat,rfl,0,rfl⟩
 ·have hc:s[at_].toNat=98:=hc
  have HF:Hid (aN 3 (.thing 1) m=bW (fun w=> !aI (m:Int) w||fR 98 w) 8):=HF.out
  obtain⟨F,HFF⟩:∃F:Nat→Bool,Hid ((fun w=> !aI (m:Int) w||fR 98 w)=F):=⟨_,rfl⟩
  rw[HFF.out] at HF
  have HS:=zH (iX F)
  go_enter Tryz.func128,Tryz.ntmps128
  go_wp2_with fail
  go_loop [10,11] (fun v i=>∃k:Nat,k≤8∧i= .int .i64 k∧v= .bool (bW F k)) (fun _ i=>8-(Go.RowKit.intOf i).toNat)
  case atStart=>exact⟨0,Nat.zero_le _,rfl,rfl⟩
  case round=>
   obtain⟨k,hk,rfl,rfl⟩:=hrel
   by_cases hlt:k<8
   ·have HK:=zH (HS.out k)
    have HW:=zH (congrFun HFF.out k)
    obtain⟨y,HY⟩:∃y,Hid (bW F k=y):=⟨_,rfl⟩
    obtain⟨hb,HHB⟩:∃y,Hid (aI (m:Int) k=y):=⟨_,rfl⟩
    have hwk:=iT HHB.out
    have h8:k=0∨k=1∨k=2∨k=3∨k=4∨k=5∨k=6∨k=7:=by omega
    rw[HY.out]
    clear hk
    cases y
    ·clear hwk h8
     go_wp2_with fail
     refine⟨⟨k+1,by omega,by go_num,by rw[HK.out,HY.out];rfl⟩,?_⟩
     simp[Go.RowKit.intOf];omega
    ·cases hb
     ·have hwk:(((m:Int) / 2^k).tmod 2==0)=true:=hwk
      clear h8
      go_wp2_with fail
      refine⟨⟨k+1,by omega,by go_num,by rw[HK.out,HY.out,←HW.out,HHB.out];rfl⟩,?_⟩
      simp[Go.RowKit.intOf];omega
     ·have hwk:(((m:Int) / 2^k).tmod 2==0)=false:=hwk
      obtain⟨v,HV⟩:∃v,Hid (fR 98 k=v):=⟨_,rfl⟩
      have hb1:((k:Int) / 2%2==1)=v:=by rw[←HV.out];exact pI 1 k 2 rfl
      try rw[Int.ediv_one] at hb1
      clear h8
      go_wp2_with fail
      refine⟨⟨k+1,by omega,by go_num,by rw[HK.out,HY.out,←HW.out,HHB.out,HV.out];rfl⟩,?_⟩
      simp[Go.RowKit.intOf];omega
   ·obtain rfl:k=8:=by omega
    go_wp2_with fail
    go_ret2
    exact⟨at_+1,by rw[HF.out];rfl,hat,rfl,0,rfl⟩
 ·have hc:s[at_].toNat=99:=hc
  have HF:Hid (aN 3 (.thing 2) m=bW (fun w=> !aI (m:Int) w||fR 99 w) 8):=HF.out
  obtain⟨F,HFF⟩:∃F:Nat→Bool,Hid ((fun w=> !aI (m:Int) w||fR 99 w)=F):=⟨_,rfl⟩
  rw[HFF.out] at HF
  have HS:=zH (iX F)
  go_enter Tryz.func128,Tryz.ntmps128
  go_wp2_with fail
  go_loop [10,11] (fun v i=>∃k:Nat,k≤8∧i= .int .i64 k∧v= .bool (bW F k)) (fun _ i=>8-(Go.RowKit.intOf i).toNat)
  case atStart=>exact⟨0,Nat.zero_le _,rfl,rfl⟩
  case round=>
   obtain⟨k,hk,rfl,rfl⟩:=hrel
   by_cases hlt:k<8
   ·have HK:=zH (HS.out k)
    have HW:=zH (congrFun HFF.out k)
    obtain⟨y,HY⟩:∃y,Hid (bW F k=y):=⟨_,rfl⟩
    obtain⟨hb,HHB⟩:∃y,Hid (aI (m:Int) k=y):=⟨_,rfl⟩
    have hwk:=iT HHB.out
    have h8:k=0∨k=1∨k=2∨k=3∨k=4∨k=5∨k=6∨k=7:=by omega
    rw[HY.out]
    clear hk
    cases y
    ·clear hwk h8
     go_wp2_with fail
     refine⟨⟨k+1,by omega,by go_num,by rw[HK.out,HY.out];rfl⟩,?_⟩
     simp[Go.RowKit.intOf];omega
    ·cases hb
     ·have hwk:(((m:Int) / 2^k).tmod 2==0)=true:=hwk
      clear h8
      go_wp2_with fail
      refine⟨⟨k+1,by omega,by go_num,by rw[HK.out,HY.out,←HW.out,HHB.out];rfl⟩,?_⟩
      simp[Go.RowKit.intOf];omega
     ·have hwk:(((m:Int) / 2^k).tmod 2==0)=false:=hwk
      obtain⟨v,HV⟩:∃v,Hid (fR 99 k=v):=⟨_,rfl⟩
      have hb1:((k:Int) / 4%2==1)=v:=by rw[←HV.out];exact pI 2 k 4 rfl
      try rw[Int.ediv_one] at hb1
      clear h8
      go_wp2_with fail
      refine⟨⟨k+1,by omega,by go_num,by rw[HK.out,HY.out,←HW.out,HHB.out,HV.out];rfl⟩,?_⟩
      simp[Go.RowKit.intOf];omega
   ·obtain rfl:k=8:=by omega
    go_wp2_with fail
    go_ret2
    exact⟨at_+1,by rw[HF.out];rfl,hat,rfl,0,rfl⟩
def l4(t:Int)(s:ByteArray)(at_:Nat)(x:bD)(rest:List Nat):Prop:=∀(m:Nat) W,(m:Int)≤aJ t→Calls Tryz.prog 128 #[.int .i64 t,.string s,.int .i64 at_,.int .i64 m] W (kR t s x rest m W)
theorem G4(k:Nat):(2:Int)^k=((2^k:Nat):Int):=by push_cast;rfl
theorem lK{k:Nat}(h:k<8):wrap64 ((2:Int)^k)=((2^k:Nat):Int):=by
 have:2^k≤2^7:=Nat.pow_le_pow_right (by omega) (by omega)
 rw[G4]
 obtain⟨p,hp⟩:∃p,2^k=p:=⟨_,rfl⟩
 rw[hp] at this⊢
 exact IntWalk.wrap64_in _ ⟨by omega,by omega⟩
def kN(t:Int)(x:bD)(m:Nat)(w:Nat):Bool:= !aI (m:Int) w|| !aN t x (bZ w)
theorem V9(t:Int)(x:bD)(m:Nat):aN t (.no x) m=bW (kN t x m) (aP t):=rfl
theorem SM(t:Int)(x:bD)(m:Nat):aN t (.ask x) m=(aN t x m||bW (kN t x m) (aP t)):=rfl
theorem VF(t:Int)(s:ByteArray)(at_ m:Nat)(w:World)(hs:s.size≤1048576)(hat:at_<s.size)(hc:s[at_].toNat=33)(h1:1≤t)(h3:t≤3)(hm:(m:Int)≤aJ t)(x:bD)(rest:List Nat)(hi:l4 t s (at_+1) x rest):
  Calls Tryz.prog 128 #[.int .i64 t,.string s,.int .i64 at_,.int .i64 m] w (kR t s (.no x) rest m w):=by
 have hd:(at_:Int)<(s.size:Int):=by omega
 have hd0:(0:Int)≤(at_:Int):=by omega
 have HF:=zH (V9 t x m)
 have HI:=zH hi
 have HM:=zH hm
 have hm256:m<256:=by have:=(bH t).2;omega
 obtain⟨F,HFF⟩:∃F:Nat→Bool,Hid (kN t x m=F):=⟨_,rfl⟩
 rw[HFF.out] at HF
 have HS:=zH (iX F)
 obtain⟨hx,HX⟩:∃b,Hid (aN t x m=b):=⟨_,rfl⟩
 have h:t=1∨t=2∨t=3:=by omega
 clear h1 h3 hm hi
 rcases h with rfl|rfl|rfl
 ·go_enter Tryz.func128,Tryz.ntmps128
  go_wp2_with fail
  refine(HI.out m _ HM.out).mono ?_
  rintro e w1 ⟨a2,rfl,ha2,hd2,q,rfl⟩
  rw[HX.out]
  have HD2:=zH hd2
  clear hd2
  go_wp2_with fail
  go_loopw [14,15] (fun v i wr=>∃k:Nat,k≤2∧i= .int .i64 k∧v= .bool (bW F k)∧∃q,wr=w.drewN q) (fun _ i _=>2-(Go.RowKit.intOf i).toNat)
  case atStart=>exact⟨0,Nat.zero_le _,rfl,rfl,q,rfl⟩
  case round=>
   obtain⟨k,hk,rfl,rfl,q',rfl⟩:=hrel
   by_cases hlt:k<2
   ·have HK:=zH (HS.out k)
    have HW:=zH (congrFun HFF.out k)
    obtain⟨y,HY⟩:∃y,Hid (bW F k=y):=⟨_,rfl⟩
    obtain⟨hb,HHB⟩:∃y,Hid (aI (m:Int) k=y):=⟨_,rfl⟩
    obtain⟨hy,HHY⟩:∃y,Hid (aN 1 x (bZ k)=y):=⟨_,rfl⟩
    have hwk:=iT HHB.out
    have HC:Hid (∀W,Calls Tryz.prog 128 #[.int .i64 1,.string s,.int .i64 ((at_+1:Nat):Int),.int .i64 (wrap64 ((2:Int)^k))] W (kR 1 s x rest (2^k) W)):=fun W=>by
     rw[lK (by omega)];exact HI.out (2^k) W (iS (t:=1) (by omega) (by omega) (w:=k) hlt).2
    have HHZ:Hid (aN 1 x ((2^k:Nat):Int)=hy):=HHY.out
    rw[HY.out]
    clear hk
    cases y
    ·clear hwk
     go_wp2_with fail
     refine(HC.out _).mono ?_
     rintro e w2 ⟨a3,rfl,_,_,q3,rfl⟩
     rw[HHZ.out]
     go_wp2_with fail
     refine⟨⟨k+1,by omega,by go_num,by rw[HK.out,HY.out];rfl,_,rfl⟩,?_⟩
     simp[Go.RowKit.intOf];omega
    ·cases hb
     ·have hwk:(((m:Int) / 2^k).tmod 2==0)=true:=hwk
      go_wp2_with fail
      refine(HC.out _).mono ?_
      rintro e w2 ⟨a3,rfl,_,_,q3,rfl⟩
      rw[HHZ.out]
      go_wp2_with fail
      refine⟨⟨k+1,by omega,by go_num,by rw[HK.out,HY.out,←HW.out,kN,HHB.out];rfl,_,rfl⟩,?_⟩
      simp[Go.RowKit.intOf];omega
     ·have hwk:(((m:Int) / 2^k).tmod 2==0)=false:=hwk
      have hnot:∀(x:Bool) (w:World),(Op.unary .not (.bool x)).run Tryz.prog w= .ok (.bool (!x)) w:=fun _ _=>rfl
      go_wp2_with fail
      refine(HC.out _).mono ?_
      rintro e w2 ⟨a3,rfl,_,_,q3,rfl⟩
      rw[HHZ.out]
      go_wp2_with fail
      refine⟨⟨k+1,by omega,by go_num,by rw[HK.out,HY.out,←HW.out,kN,HHB.out,HHY.out];rfl,_,rfl⟩,?_⟩
      simp[Go.RowKit.intOf];omega
   ·obtain rfl:k=2:=by omega
    have HFM:Hid (bW F (aP 1)=bW F 2):=rfl
    obtain⟨y,HY⟩:∃y,Hid (bW F 2=y):=⟨_,rfl⟩
    rw[HY.out] at HFM⊢
    cases hx
    all_goals
     go_wp2_with fail
     go_ret2
     exact⟨a2,by rw[HF.out,HFM.out];first|rfl|(rw[HX.out];rfl),ha2,HD2.out,_,rfl⟩
 ·go_enter Tryz.func128,Tryz.ntmps128
  go_wp2_with fail
  refine(HI.out m _ HM.out).mono ?_
  rintro e w1 ⟨a2,rfl,ha2,hd2,q,rfl⟩
  rw[HX.out]
  have HD2:=zH hd2
  clear hd2
  go_wp2_with fail
  go_loopw [14,15] (fun v i wr=>∃k:Nat,k≤4∧i= .int .i64 k∧v= .bool (bW F k)∧∃q,wr=w.drewN q) (fun _ i _=>4-(Go.RowKit.intOf i).toNat)
  case atStart=>exact⟨0,Nat.zero_le _,rfl,rfl,q,rfl⟩
  case round=>
   obtain⟨k,hk,rfl,rfl,q',rfl⟩:=hrel
   by_cases hlt:k<4
   ·have HK:=zH (HS.out k)
    have HW:=zH (congrFun HFF.out k)
    obtain⟨y,HY⟩:∃y,Hid (bW F k=y):=⟨_,rfl⟩
    obtain⟨hb,HHB⟩:∃y,Hid (aI (m:Int) k=y):=⟨_,rfl⟩
    obtain⟨hy,HHY⟩:∃y,Hid (aN 2 x (bZ k)=y):=⟨_,rfl⟩
    have hwk:=iT HHB.out
    have HC:Hid (∀W,Calls Tryz.prog 128 #[.int .i64 2,.string s,.int .i64 ((at_+1:Nat):Int),.int .i64 (wrap64 ((2:Int)^k))] W (kR 2 s x rest (2^k) W)):=fun W=>by
     rw[lK (by omega)];exact HI.out (2^k) W (iS (t:=2) (by omega) (by omega) (w:=k) hlt).2
    have HHZ:Hid (aN 2 x ((2^k:Nat):Int)=hy):=HHY.out
    rw[HY.out]
    clear hk
    cases y
    ·clear hwk
     go_wp2_with fail
     refine(HC.out _).mono ?_
     rintro e w2 ⟨a3,rfl,_,_,q3,rfl⟩
     rw[HHZ.out]
     go_wp2_with fail
     refine⟨⟨k+1,by omega,by go_num,by rw[HK.out,HY.out];rfl,_,rfl⟩,?_⟩
     simp[Go.RowKit.intOf];omega
    ·cases hb
     ·have hwk:(((m:Int) / 2^k).tmod 2==0)=true:=hwk
      go_wp2_with fail
      refine(HC.out _).mono ?_
      rintro e w2 ⟨a3,rfl,_,_,q3,rfl⟩
      rw[HHZ.out]
      go_wp2_with fail
      refine⟨⟨k+1,by omega,by go_num,by rw[HK.out,HY.out,←HW.out,kN,HHB.out];rfl,_,rfl⟩,?_⟩
      simp[Go.RowKit.intOf];omega
     ·have hwk:(((m:Int) / 2^k).tmod 2==0)=false:=hwk
      have hnot:∀(x:Bool) (w:World),(Op.unary .not (.bool x)).run Tryz.prog w= .ok (.bool (!x)) w:=fun _ _=>rfl
      go_wp2_with fail
      refine(HC.out _).mono ?_
      rintro e w2 ⟨a3,rfl,_,_,q3,rfl⟩
      rw[HHZ.out]
      go_wp2_with fail
      refine⟨⟨k+1,by omega,by go_num,by rw[HK.out,HY.out,←HW.out,kN,HHB.out,HHY.out];rfl,_,rfl⟩,?_⟩
      simp[Go.RowKit.intOf];omega
   ·obtain rfl:k=4:=by omega
    have HFM:Hid (bW F (aP 2)=bW F 4):=rfl
    obtain⟨y,HY⟩:∃y,Hid (bW F 4=y):=⟨_,rfl⟩
    rw[HY.out] at HFM⊢
    cases hx
    all_goals
     go_wp2_with fail
     go_ret2
     exact⟨a2,by rw[HF.out,HFM.out];first|rfl|(rw[HX.out];rfl),ha2,HD2.out,_,rfl⟩
 ·go_enter Tryz.func128,Tryz.ntmps128
  go_wp2_with fail
  refine(HI.out m _ HM.out).mono ?_
  rintro e w1 ⟨a2,rfl,ha2,hd2,q,rfl⟩
  rw[HX.out]
  have HD2:=zH hd2
  clear hd2
  go_wp2_with fail
  go_loopw [14,15] (fun v i wr=>∃k:Nat,k≤8∧i= .int .i64 k∧v= .bool (bW F k)∧∃q,wr=w.drewN q) (fun _ i _=>8-(Go.RowKit.intOf i).toNat)
  case atStart=>exact⟨0,Nat.zero_le _,rfl,rfl,q,rfl⟩
  case round=>
   obtain⟨k,hk,rfl,rfl,q',rfl⟩:=hrel
   by_cases hlt:k<8
   ·have HK:=zH (HS.out k)
    have HW:=zH (congrFun HFF.out k)
    obtain⟨y,HY⟩:∃y,Hid (bW F k=y):=⟨_,rfl⟩
    obtain⟨hb,HHB⟩:∃y,Hid (aI (m:Int) k=y):=⟨_,rfl⟩
    obtain⟨hy,HHY⟩:∃y,Hid (aN 3 x (bZ k)=y):=⟨_,rfl⟩
    have hwk:=iT HHB.out
    have HC:Hid (∀W,Calls Tryz.prog 128 #[.int .i64 3,.string s,.int .i64 ((at_+1:Nat):Int),.int .i64 (wrap64 ((2:Int)^k))] W (kR 3 s x rest (2^k) W)):=fun W=>by
     rw[lK (by omega)];exact HI.out (2^k) W (iS (t:=3) (by omega) (by omega) (w:=k) hlt).2
    have HHZ:Hid (aN 3 x ((2^k:Nat):Int)=hy):=HHY.out
    rw[HY.out]
    clear hk
    cases y
    ·clear hwk
     go_wp2_with fail
     refine(HC.out _).mono ?_
     rintro e w2 ⟨a3,rfl,_,_,q3,rfl⟩
     rw[HHZ.out]
     go_wp2_with fail
     refine⟨⟨k+1,by omega,by go_num,by rw[HK.out,HY.out];rfl,_,rfl⟩,?_⟩
     simp[Go.RowKit.intOf];omega
    ·cases hb
     ·have hwk:(((m:Int) / 2^k).tmod 2==0)=true:=hwk
      go_wp2_with fail
      refine(HC.out _).mono ?_
      rintro e w2 ⟨a3,rfl,_,_,q3,rfl⟩
      rw[HHZ.out]
      go_wp2_with fail
      refine⟨⟨k+1,by omega,by go_num,by rw[HK.out,HY.out,←HW.out,kN,HHB.out];rfl,_,rfl⟩,?_⟩
      simp[Go.RowKit.intOf];omega
     ·have hwk:(((m:Int) / 2^k).tmod 2==0)=false:=hwk
      have hnot:∀(x:Bool) (w:World),(Op.unary .not (.bool x)).run Tryz.prog w= .ok (.bool (!x)) w:=fun _ _=>rfl
      go_wp2_with fail
      refine(HC.out _).mono ?_
      rintro e w2 ⟨a3,rfl,_,_,q3,rfl⟩
      rw[HHZ.out]
      go_wp2_with fail
      refine⟨⟨k+1,by omega,by go_num,by rw[HK.out,HY.out,←HW.out,kN,HHB.out,HHY.out];rfl,_,rfl⟩,?_⟩
      simp[Go.RowKit.intOf];omega
   ·obtain rfl:k=8:=by omega
    have HFM:Hid (bW F (aP 3)=bW F 8):=rfl
    obtain⟨y,HY⟩:∃y,Hid (bW F 8=y):=⟨_,rfl⟩
    rw[HY.out] at HFM⊢
    cases hx
    all_goals
     go_wp2_with fail
     go_ret2
     exact⟨a2,by rw[HF.out,HFM.out];first|rfl|(rw[HX.out];rfl),ha2,HD2.out,_,rfl⟩
theorem TK(t:Int)(s:ByteArray)(at_ m:Nat)(w:World)(hs:s.size≤1048576)(hat:at_<s.size)(hc:s[at_].toNat=63)(h1:1≤t)(h3:t≤3)(hm:(m:Int)≤aJ t)(x:bD)(rest:List Nat)(hi:l4 t s (at_+1) x rest):
  Calls Tryz.prog 128 #[.int .i64 t,.string s,.int .i64 at_,.int .i64 m] w (kR t s (.ask x) rest m w):=by
 have hd:(at_:Int)<(s.size:Int):=by omega
 have hd0:(0:Int)≤(at_:Int):=by omega
 have HF:=zH (SM t x m)
 have HI:=zH hi
 have HM:=zH hm
 have hm256:m<256:=by have:=(bH t).2;omega
 obtain⟨F,HFF⟩:∃F:Nat→Bool,Hid (kN t x m=F):=⟨_,rfl⟩
 rw[HFF.out] at HF
 have HS:=zH (iX F)
 obtain⟨hx,HX⟩:∃b,Hid (aN t x m=b):=⟨_,rfl⟩
 have h:t=1∨t=2∨t=3:=by omega
 clear h1 h3 hm hi
 rcases h with rfl|rfl|rfl
 ·go_enter Tryz.func128,Tryz.ntmps128
  go_wp2_with fail
  refine(HI.out m _ HM.out).mono ?_
  rintro e w1 ⟨a2,rfl,ha2,hd2,q,rfl⟩
  rw[HX.out]
  have HD2:=zH hd2
  clear hd2
  go_wp2_with fail
  go_loopw [14,15] (fun v i wr=>∃k:Nat,k≤2∧i= .int .i64 k∧v= .bool (bW F k)∧∃q,wr=w.drewN q) (fun _ i _=>2-(Go.RowKit.intOf i).toNat)
  case atStart=>exact⟨0,Nat.zero_le _,rfl,rfl,q,rfl⟩
  case round=>
   obtain⟨k,hk,rfl,rfl,q',rfl⟩:=hrel
   by_cases hlt:k<2
   ·have HK:=zH (HS.out k)
    have HW:=zH (congrFun HFF.out k)
    obtain⟨y,HY⟩:∃y,Hid (bW F k=y):=⟨_,rfl⟩
    obtain⟨hb,HHB⟩:∃y,Hid (aI (m:Int) k=y):=⟨_,rfl⟩
    obtain⟨hy,HHY⟩:∃y,Hid (aN 1 x (bZ k)=y):=⟨_,rfl⟩
    have hwk:=iT HHB.out
    have HC:Hid (∀W,Calls Tryz.prog 128 #[.int .i64 1,.string s,.int .i64 ((at_+1:Nat):Int),.int .i64 (wrap64 ((2:Int)^k))] W (kR 1 s x rest (2^k) W)):=fun W=>by
     rw[lK (by omega)];exact HI.out (2^k) W (iS (t:=1) (by omega) (by omega) (w:=k) hlt).2
    have HHZ:Hid (aN 1 x ((2^k:Nat):Int)=hy):=HHY.out
    rw[HY.out]
    clear hk
    cases y
    ·clear hwk
     go_wp2_with fail
     refine(HC.out _).mono ?_
     rintro e w2 ⟨a3,rfl,_,_,q3,rfl⟩
     rw[HHZ.out]
     go_wp2_with fail
     refine⟨⟨k+1,by omega,by go_num,by rw[HK.out,HY.out];rfl,_,rfl⟩,?_⟩
     simp[Go.RowKit.intOf];omega
    ·cases hb
     ·have hwk:(((m:Int) / 2^k).tmod 2==0)=true:=hwk
      go_wp2_with fail
      refine(HC.out _).mono ?_
      rintro e w2 ⟨a3,rfl,_,_,q3,rfl⟩
      rw[HHZ.out]
      go_wp2_with fail
      refine⟨⟨k+1,by omega,by go_num,by rw[HK.out,HY.out,←HW.out,kN,HHB.out];rfl,_,rfl⟩,?_⟩
      simp[Go.RowKit.intOf];omega
     ·have hwk:(((m:Int) / 2^k).tmod 2==0)=false:=hwk
      have hnot:∀(x:Bool) (w:World),(Op.unary .not (.bool x)).run Tryz.prog w= .ok (.bool (!x)) w:=fun _ _=>rfl
      go_wp2_with fail
      refine(HC.out _).mono ?_
      rintro e w2 ⟨a3,rfl,_,_,q3,rfl⟩
      rw[HHZ.out]
      go_wp2_with fail
      refine⟨⟨k+1,by omega,by go_num,by rw[HK.out,HY.out,←HW.out,kN,HHB.out,HHY.out];rfl,_,rfl⟩,?_⟩
      simp[Go.RowKit.intOf];omega
   ·obtain rfl:k=2:=by omega
    have HFM:Hid (bW F (aP 1)=bW F 2):=rfl
    obtain⟨y,HY⟩:∃y,Hid (bW F 2=y):=⟨_,rfl⟩
    rw[HY.out] at HFM⊢
    cases hx
    all_goals
     go_wp2_with fail
     go_ret2
     exact⟨a2,by rw[HF.out,HFM.out];first|rfl|(rw[HX.out];rfl),ha2,HD2.out,_,rfl⟩
 ·go_enter Tryz.func128,Tryz.ntmps128
  go_wp2_with fail
  refine(HI.out m _ HM.out).mono ?_
  rintro e w1 ⟨a2,rfl,ha2,hd2,q,rfl⟩
  rw[HX.out]
  have HD2:=zH hd2
  clear hd2
  go_wp2_with fail
  go_loopw [14,15] (fun v i wr=>∃k:Nat,k≤4∧i= .int .i64 k∧v= .bool (bW F k)∧∃q,wr=w.drewN q) (fun _ i _=>4-(Go.RowKit.intOf i).toNat)
  case atStart=>exact⟨0,Nat.zero_le _,rfl,rfl,q,rfl⟩
  case round=>
   obtain⟨k,hk,rfl,rfl,q',rfl⟩:=hrel
   by_cases hlt:k<4
   ·have HK:=zH (HS.out k)
    have HW:=zH (congrFun HFF.out k)
    obtain⟨y,HY⟩:∃y,Hid (bW F k=y):=⟨_,rfl⟩
    obtain⟨hb,HHB⟩:∃y,Hid (aI (m:Int) k=y):=⟨_,rfl⟩
    obtain⟨hy,HHY⟩:∃y,Hid (aN 2 x (bZ k)=y):=⟨_,rfl⟩
    have hwk:=iT HHB.out
    have HC:Hid (∀W,Calls Tryz.prog 128 #[.int .i64 2,.string s,.int .i64 ((at_+1:Nat):Int),.int .i64 (wrap64 ((2:Int)^k))] W (kR 2 s x rest (2^k) W)):=fun W=>by
     rw[lK (by omega)];exact HI.out (2^k) W (iS (t:=2) (by omega) (by omega) (w:=k) hlt).2
    have HHZ:Hid (aN 2 x ((2^k:Nat):Int)=hy):=HHY.out
    rw[HY.out]
    clear hk
    cases y
    ·clear hwk
     go_wp2_with fail
     refine(HC.out _).mono ?_
     rintro e w2 ⟨a3,rfl,_,_,q3,rfl⟩
     rw[HHZ.out]
     go_wp2_with fail
     refine⟨⟨k+1,by omega,by go_num,by rw[HK.out,HY.out];rfl,_,rfl⟩,?_⟩
     simp[Go.RowKit.intOf];omega
    ·cases hb
     ·have hwk:(((m:Int) / 2^k).tmod 2==0)=true:=hwk
      go_wp2_with fail
      refine(HC.out _).mono ?_
      rintro e w2 ⟨a3,rfl,_,_,q3,rfl⟩
      rw[HHZ.out]
      go_wp2_with fail
      refine⟨⟨k+1,by omega,by go_num,by rw[HK.out,HY.out,←HW.out,kN,HHB.out];rfl,_,rfl⟩,?_⟩
      simp[Go.RowKit.intOf];omega
     ·have hwk:(((m:Int) / 2^k).tmod 2==0)=false:=hwk
      have hnot:∀(x:Bool) (w:World),(Op.unary .not (.bool x)).run Tryz.prog w= .ok (.bool (!x)) w:=fun _ _=>rfl
      go_wp2_with fail
      refine(HC.out _).mono ?_
      rintro e w2 ⟨a3,rfl,_,_,q3,rfl⟩
      rw[HHZ.out]
      go_wp2_with fail
      refine⟨⟨k+1,by omega,by go_num,by rw[HK.out,HY.out,←HW.out,kN,HHB.out,HHY.out];rfl,_,rfl⟩,?_⟩
      simp[Go.RowKit.intOf];omega
   ·obtain rfl:k=4:=by omega
    have HFM:Hid (bW F (aP 2)=bW F 4):=rfl
    obtain⟨y,HY⟩:∃y,Hid (bW F 4=y):=⟨_,rfl⟩
    rw[HY.out] at HFM⊢
    cases hx
    all_goals
     go_wp2_with fail
     go_ret2
     exact⟨a2,by rw[HF.out,HFM.out];first|rfl|(rw[HX.out];rfl),ha2,HD2.out,_,rfl⟩
 ·go_enter Tryz.func128,Tryz.ntmps128
  go_wp2_with fail
  refine(HI.out m _ HM.out).mono ?_
  rintro e w1 ⟨a2,rfl,ha2,hd2,q,rfl⟩
  rw[HX.out]
  have HD2:=zH hd2
  clear hd2
  go_wp2_with fail
  go_loopw [14,15] (fun v i wr=>∃k:Nat,k≤8∧i= .int .i64 k∧v= .bool (bW F k)∧∃q,wr=w.drewN q) (fun _ i _=>8-(Go.RowKit.intOf i).toNat)
  case atStart=>exact⟨0,Nat.zero_le _,rfl,rfl,q,rfl⟩
  case round=>
   obtain⟨k,hk,rfl,rfl,q',rfl⟩:=hrel
   by_cases hlt:k<8
   ·have HK:=zH (HS.out k)
    have HW:=zH (congrFun HFF.out k)
    obtain⟨y,HY⟩:∃y,Hid (bW F k=y):=⟨_,rfl⟩
    obtain⟨hb,HHB⟩:∃y,Hid (aI (m:Int) k=y):=⟨_,rfl⟩
    obtain⟨hy,HHY⟩:∃y,Hid (aN 3 x (bZ k)=y):=⟨_,rfl⟩
    have hwk:=iT HHB.out
    have HC:Hid (∀W,Calls Tryz.prog 128 #[.int .i64 3,.string s,.int .i64 ((at_+1:Nat):Int),.int .i64 (wrap64 ((2:Int)^k))] W (kR 3 s x rest (2^k) W)):=fun W=>by
     rw[lK (by omega)];exact HI.out (2^k) W (iS (t:=3) (by omega) (by omega) (w:=k) hlt).2
    have HHZ:Hid (aN 3 x ((2^k:Nat):Int)=hy):=HHY.out
    rw[HY.out]
    clear hk
    cases y
    ·clear hwk
     go_wp2_with fail
     refine(HC.out _).mono ?_
     rintro e w2 ⟨a3,rfl,_,_,q3,rfl⟩
     rw[HHZ.out]
     go_wp2_with fail
     refine⟨⟨k+1,by omega,by go_num,by rw[HK.out,HY.out];rfl,_,rfl⟩,?_⟩
     simp[Go.RowKit.intOf];omega
    ·cases hb
     ·have hwk:(((m:Int) / 2^k).tmod 2==0)=true:=hwk
      go_wp2_with fail
      refine(HC.out _).mono ?_
      rintro e w2 ⟨a3,rfl,_,_,q3,rfl⟩
      rw[HHZ.out]
      go_wp2_with fail
      refine⟨⟨k+1,by omega,by go_num,by rw[HK.out,HY.out,←HW.out,kN,HHB.out];rfl,_,rfl⟩,?_⟩
      simp[Go.RowKit.intOf];omega
     ·have hwk:(((m:Int) / 2^k).tmod 2==0)=false:=hwk
      have hnot:∀(x:Bool) (w:World),(Op.unary .not (.bool x)).run Tryz.prog w= .ok (.bool (!x)) w:=fun _ _=>rfl
      go_wp2_with fail
      refine(HC.out _).mono ?_
      rintro e w2 ⟨a3,rfl,_,_,q3,rfl⟩
      rw[HHZ.out]
      go_wp2_with fail
      refine⟨⟨k+1,by omega,by go_num,by rw[HK.out,HY.out,←HW.out,kN,HHB.out,HHY.out];rfl,_,rfl⟩,?_⟩
      simp[Go.RowKit.intOf];omega
   ·obtain rfl:k=8:=by omega
    have HFM:Hid (bW F (aP 3)=bW F 8):=rfl
    obtain⟨y,HY⟩:∃y,Hid (bW F 8=y):=⟨_,rfl⟩
    rw[HY.out] at HFM⊢
    cases hx
    all_goals
     go_wp2_with fail
     go_ret2
     exact⟨a2,by rw[HF.out,HFM.out];first|rfl|(rw[HX.out];rfl),ha2,HD2.out,_,rfl⟩
def MP(t:Int)(x y:bD)(m:Nat)(u:Nat):Bool:= !aB (u:Int) (m:Int)|| !aN t x (u:Int)||aN t y (u:Int)
theorem V7(t:Int)(x y:bD)(m:Nat):aN t (.if_ x y) m=bW (MP t x y m) (m+1):=by
 show(List.range ((m:Int).toNat+1)).all _=_
 rw[Int.toNat_natCast];rfl
theorem RX(t:Int)(s:ByteArray)(at_ m:Nat)(w:World)(hs:s.size≤1048576)(hat:at_<s.size)(hc:s[at_].toNat=40)(hm:(m:Int)≤aJ t)(x:bD)(l:List Nat)(hi:l4 t s (at_+1) x (38::l))(y:bD)(e0:Nat)(r:List Nat)
  (hi2:∀a2:Nat,a2≤s.size→(aG s).drop a2=l→l4 t s a2 y (e0::r)):
  Calls Tryz.prog 128 #[.int .i64 t,.string s,.int .i64 at_,.int .i64 m] w (kR t s (.and_ x y) r m w):=by
 have hd:(at_:Int)<(s.size:Int):=by omega
 have hd0:(0:Int)≤(at_:Int):=by omega
 have HI:=zH hi
 have HI2:=zH hi2
 have HM:=zH hm
 obtain⟨hx,HX⟩:∃b,Hid (aN t x m=b):=⟨_,rfl⟩
 obtain⟨hy,HY⟩:∃b,Hid (aN t y m=b):=⟨_,rfl⟩
 clear hi hi2 hm
 cases hx
 all_goals
  go_enter Tryz.func128,Tryz.ntmps128
  go_wp2_with fail
  refine(HI.out m _ HM.out).mono ?_
  rintro e w1 ⟨a2,rfl,ha2,hd2,q,rfl⟩
  rw[HX.out]
  obtain⟨hlt,hm2,hl⟩:=aW hd2
  have HC:=zH (HI2.out (a2+1) hlt hl)
  have hd3:(a2:Int)<(s.size:Int):=by omega
  have hd4:(0:Int)≤(a2:Int):=by omega
  clear hd2 hl
  go_wp2_with fail
  refine(HC.out m _ HM.out).mono ?_
  rintro e w2 ⟨a3,rfl,ha3,hd5,q2,rfl⟩
  rw[HY.out]
  obtain⟨hlt3,_,hl3⟩:=aW hd5
  have HL:=zH hl3
  clear hd5 hl3
  go_wp2_with fail
  go_ret2
  exact⟨a3+1,by unfold aN;rw[HX.out,HY.out];rfl,hlt3,HL.out,_,rfl⟩
theorem SL(t:Int)(s:ByteArray)(at_ m:Nat)(w:World)(hs:s.size≤1048576)(hat:at_<s.size)(hc:s[at_].toNat=40)(hm:(m:Int)≤aJ t)(x:bD)(l:List Nat)(hi:l4 t s (at_+1) x (124::l))(y:bD)(e0:Nat)(r:List Nat)
  (hi2:∀a2:Nat,a2≤s.size→(aG s).drop a2=l→l4 t s a2 y (e0::r)):
  Calls Tryz.prog 128 #[.int .i64 t,.string s,.int .i64 at_,.int .i64 m] w (kR t s (.or_ x y) r m w):=by
 have hd:(at_:Int)<(s.size:Int):=by omega
 have hd0:(0:Int)≤(at_:Int):=by omega
 have HI:=zH hi
 have HI2:=zH hi2
 have HM:=zH hm
 obtain⟨hx,HX⟩:∃b,Hid (aN t x m=b):=⟨_,rfl⟩
 obtain⟨hy,HY⟩:∃b,Hid (aN t y m=b):=⟨_,rfl⟩
 clear hi hi2 hm
 cases hx
 all_goals
  go_enter Tryz.func128,Tryz.ntmps128
  go_wp2_with fail
  refine(HI.out m _ HM.out).mono ?_
  rintro e w1 ⟨a2,rfl,ha2,hd2,q,rfl⟩
  rw[HX.out]
  obtain⟨hlt,hm2,hl⟩:=aW hd2
  have HC:=zH (HI2.out (a2+1) hlt hl)
  have hd3:(a2:Int)<(s.size:Int):=by omega
  have hd4:(0:Int)≤(a2:Int):=by omega
  clear hd2 hl
  go_wp2_with fail
  refine(HC.out m _ HM.out).mono ?_
  rintro e w2 ⟨a3,rfl,ha3,hd5,q2,rfl⟩
  rw[HY.out]
  obtain⟨hlt3,_,hl3⟩:=aW hd5
  have HL:=zH hl3
  clear hd5 hl3
  go_wp2_with fail
  go_ret2
  exact⟨a3+1,by unfold aN;rw[HX.out,HY.out];rfl,hlt3,HL.out,_,rfl⟩
theorem TX(t:Int)(s:ByteArray)(at_ m:Nat)(w:World)(hs:s.size≤1048576)(hat:at_<s.size)(hc:s[at_].toNat=40)(hm:(m:Int)≤aJ t)(x:bD)(l:List Nat)(hi:l4 t s (at_+1) x (62::l))(y:bD)(e0:Nat)(r:List Nat)
  (hi2:∀a2:Nat,a2≤s.size→(aG s).drop a2=l→l4 t s a2 y (e0::r)):
  Calls Tryz.prog 128 #[.int .i64 t,.string s,.int .i64 at_,.int .i64 m] w (kR t s (.if_ x y) r m w):=by
 have hd:(at_:Int)<(s.size:Int):=by omega
 have hd0:(0:Int)≤(at_:Int):=by omega
 have HF:=zH (V7 t x y m)
 have HI:=zH hi
 have HI2:=zH hi2
 have HM:=zH hm
 have hm256:m<256:=by have:=(bH t).2;omega
 obtain⟨F,HFF⟩:∃F:Nat→Bool,Hid (MP t x y m=F):=⟨_,rfl⟩
 rw[HFF.out] at HF
 have HS:=zH (iX F)
 clear hi hi2 hm
 go_enter Tryz.func128,Tryz.ntmps128
 go_wp2_with fail
 refine(HI.out m _ HM.out).mono ?_
 rintro e w1 ⟨a2,rfl,ha2,hd2,q,rfl⟩
 obtain⟨bx,HBX⟩:∃b,Hid (aN t x m=b):=⟨_,rfl⟩
 rw[HBX.out]
 obtain⟨hlt,hm2,hl⟩:=aW hd2
 have HC:=zH (HI2.out (a2+1) hlt hl)
 have hd3:(a2:Int)<(s.size:Int):=by omega
 have hd4:(0:Int)≤(a2:Int):=by omega
 clear hd2 hl
 go_wp2_with fail
 refine(HC.out m _ HM.out).mono ?_
 rintro e w2 ⟨a3,rfl,ha3,hd5,q2,rfl⟩
 obtain⟨bz,HBZ⟩:∃b,Hid (aN t y m=b):=⟨_,rfl⟩
 rw[HBZ.out]
 obtain⟨hlt3,_,hl3⟩:=aW hd5
 have HL:=zH hl3
 clear hd5 hl3
 go_wp2_with fail
 go_loopw [22,23] (fun v i wr=>∃k:Nat,k≤m+1∧i= .int .i64 k∧v= .bool (bW F k)∧∃q,wr=w.drewN q) (fun _ i _=>m+1-(Go.RowKit.intOf i).toNat)
 case atStart=>exact⟨0,Nat.zero_le _,rfl,rfl,_,rfl⟩
 case round=>
  obtain⟨k,hk,rfl,rfl,q',rfl⟩:=hrel
  by_cases hle:k≤m
  ·have HK:=zH (HS.out k)
   have HW:=zH (congrFun HFF.out k)
   have hki:(k:Int)≤(m:Int):=by omega
   have hka:(k:Int)≤aJ t:=by have:=HM.out;omega
   obtain⟨y0,HY⟩:∃y,Hid (bW F k=y):=⟨_,rfl⟩
   have HKA:=zH hka
   rw[HY.out]
   clear hk hka
   rcases hw:aB (k:Int) (m:Int) with _|_
   ·have HWI:=zH hw
    clear hw
    have hnot:∀(x:Bool) (w:World),(Op.unary .not (.bool x)).run Tryz.prog w= .ok (.bool (!x)) w:=fun _ _=>rfl
    go_wp2_with fail
    refine(gC HWI (by omega) (by omega) (by omega) (by omega) _).mono ?_
    rintro e w3 ⟨rfl,q3,rfl⟩
    go_wp2_with fail
    refine⟨⟨k+1,by omega,by go_num,by rw[HK.out,HY.out,←HW.out,MP,HWI.out];cases y0<;>rfl,_,rfl⟩,?_⟩
    simp[Go.RowKit.intOf];omega
   ·have HWI:=zH hw
    clear hw
    rcases hx:aN t x (k:Int) with _|_
    ·have HX:=zH hx
     clear hx
     have hnot:∀(x:Bool) (w:World),(Op.unary .not (.bool x)).run Tryz.prog w= .ok (.bool (!x)) w:=fun _ _=>rfl
     go_wp2_with fail
     refine(gC HWI (by omega) (by omega) (by omega) (by omega) _).mono ?_
     rintro e w3 ⟨rfl,q3,rfl⟩
     go_wp2_with fail
     refine(HI.out k _ HKA.out).mono ?_
     rintro e w4 ⟨a4,rfl,_,_,q4,rfl⟩
     rw[HX.out]
     go_wp2_with fail
     refine⟨⟨k+1,by omega,by go_num,by rw[HK.out,HY.out,←HW.out,MP,HWI.out,HX.out];cases y0<;>rfl,_,rfl⟩,?_⟩
     simp[Go.RowKit.intOf];omega
    ·have HX:=zH hx
     clear hx
     obtain⟨by_,HBY⟩:∃b,Hid (aN t y (k:Int)=b):=⟨_,rfl⟩
     have hnot:∀(x:Bool) (w:World),(Op.unary .not (.bool x)).run Tryz.prog w= .ok (.bool (!x)) w:=fun _ _=>rfl
     cases y0
     all_goals
      go_wp2_with fail
      refine(gC HWI (by omega) (by omega) (by omega) (by omega) _).mono ?_
      rintro e w3 ⟨rfl,q3,rfl⟩
      go_wp2_with fail
      refine(HI.out k _ HKA.out).mono ?_
      rintro e w4 ⟨a4,rfl,_,_,q4,rfl⟩
      rw[HX.out]
      go_wp2_with fail
      refine(HC.out k _ HKA.out).mono ?_
      rintro e w5 ⟨a5,rfl,_,_,q5,rfl⟩
      rw[HBY.out]
      go_wp2_with fail
      refine⟨⟨k+1,by omega,by go_num,by rw[HK.out,HY.out,←HW.out,MP,HWI.out,HX.out,HBY.out];rfl,_,rfl⟩,?_⟩
      simp[Go.RowKit.intOf];omega
  ·obtain rfl:k=m+1:=by omega
   go_wp2_with fail
   go_ret2
   exact⟨a3+1,by rw[HF.out];rfl,hlt3,HL.out,_,rfl⟩
theorem x8{t:Int}{c:Nat}(h:kU t c=true)(e1:c≠49)(e2:c≠48)(e3:c≠33)(e4:c≠63)(e5:c≠40):∃i:Nat,c=97+i∧(i:Int)<t:=by
 unfold kU at h
 simp only[Bool.or_eq_true,decide_eq_true_eq] at h
 exact⟨c-97,by omega,by omega⟩
theorem zP{t:Int}{i k:Nat}{l:List Nat}(hi:(i:Int)<t):bM t (k+1) ((97+i)::l)=some (.thing i,l):=by
 unfold bM
 rw[if_neg (by omega),if_neg (by omega),if_pos ⟨by omega,by omega⟩]
 congr 3;omega
theorem MY(t:Int)(s:ByteArray)(hs:s.size≤1048576)(h1:1≤t)(h3:t≤3):∀k,GZ t k s:=by
 intro k
 induction k with
 |zero=>
  intro at_ w hle hk
  exact J4 t s at_ w hs (by omega)
 |succ k ih=>
  intro at_ w hle hk
  by_cases hlt:at_<s.size
  ·rw[mA hlt]
   rcases hb:kU t s[at_].toNat with _|_
   ·rw[CH t k _ _ hb]
    exact UJ t s at_ w hs h1 h3 hlt hb
   by_cases e49:s[at_].toNat=49
   ·rw[e49];exact UC t s at_ w hs h1 h3 hlt e49
   by_cases e48:s[at_].toNat=48
   ·rw[e48];exact P5 t s at_ w hs hlt e48
   have hn:∀{x:bD},(bE t x).length≤70:=fun {x}=>(dJ (bA h1 h3 x)).2
   by_cases e33:s[at_].toNat=33
   ·rw[e33,wD]
    rcases h:bM t k ((aG s).drop (at_+1)) with _|⟨x,rest⟩
    ·exact wQ9 t s at_ w hs hlt e33 (fun W=>pT ih W (by omega) (by omega) h)
    ·exact VQ t s at_ w hs hlt e33 x hn rest (fun W=>mB ih W (by omega) (by omega) h)
   by_cases e63:s[at_].toNat=63
   ·rw[e63,t8]
    rcases h:bM t k ((aG s).drop (at_+1)) with _|⟨x,rest⟩
    ·exact GC t s at_ w hs hlt e63 (fun W=>pT ih W (by omega) (by omega) h)
    ·exact TL t s at_ w hs hlt e63 x hn rest (fun W=>mB ih W (by omega) (by omega) h)
   by_cases e40:s[at_].toNat=40
   ·rw[e40,sF]
    rcases h:bM t k ((aG s).drop (at_+1)) with _|⟨x,_|⟨m,l⟩⟩
    ·rw[show dI t k ((aG s).drop (at_+1))=none by unfold dI;rw[h]]
     exact DV t s at_ w hs hlt e40 (fun W=>pT ih W (by omega) (by omega) h)
    ·rw[show dI t k ((aG s).drop (at_+1))=none by unfold dI;rw[h]]
     exact E5 t s at_ w hs hlt e40 x (fun W=>mB ih W (by omega) (by omega) h)
    ·have hi:∀W,Calls Tryz.prog 100 #[.int .i64 t,.string s,.int .i64 ((at_+1:Nat):Int)] W (eX t s x (m::l) W):=fun W=>mB ih W (by omega) (by omega) h
     have hlen:∀a2:Nat,a2≤s.size→(aG s).drop a2=l→s.size-a2≤k:=fun a2 ha hd=>by
      have:=tX t k _ _ _ h
      rw[List.length_drop,bR] at this
      have h2:l.length=s.size-a2:=by rw[←hd,List.length_drop,bR]
      simp only[List.length_cons] at this
      omega
     rcases h2:bM t k l with _|⟨y,_|⟨e0,r⟩⟩
     ·rw[show dI t k ((aG s).drop (at_+1))=none by unfold dI;rw[h];simp only;rw[h2]]
      exact FM t s at_ w hs hlt e40 x m l hi (fun a2 W ha hd=>pT ih W ha (hlen a2 ha hd) (by rw[hd];exact h2))
     ·rw[show dI t k ((aG s).drop (at_+1))=none by unfold dI;rw[h];simp only;rw[h2]]
      exact G1 t s at_ w hs hlt e40 x m l hi y (fun a2 W ha hd=>mB ih W ha (hlen a2 ha hd) (by rw[hd];exact h2))
     ·have hi2:∀(a2:Nat) W,a2≤s.size→(aG s).drop a2=l→Calls Tryz.prog 100 #[.int .i64 t,.string s,.int .i64 a2] W (eX t s y (e0::r) W):=fun a2 W ha hd=>mB ih W ha (hlen a2 ha hd) (by rw[hd];exact h2)
      by_cases he:e0=41
      ·subst he
       rcases hm:(decide (m=38)||decide (m=124)||decide (m=62)) with _|_
       ·rw[show dI t k ((aG s).drop (at_+1))=none by unfold dI;rw[h];simp only;rw[h2];simp only[if_true];rw[DH hm];rfl]
        exact EA t s at_ w hs hlt e40 x m l hi y r hm hi2
       ·have hm3:m=38∨m=124∨m=62:=by simpa [or_assoc] using hm
        rcases hm3 with rfl|rfl|rfl
        ·rw[show dI t k ((aG s).drop (at_+1))=some (.and_ x y,r) by unfold dI;rw[h];simp only;rw[h2];rfl]
         exact DZ t s at_ w hs hlt e40 x l hi y r hn hn hi2
        ·rw[show dI t k ((aG s).drop (at_+1))=some (.or_ x y,r) by unfold dI;rw[h];simp only;rw[h2];rfl]
         exact E6 t s at_ w hs hlt e40 x l hi y r hn hn hi2
        ·rw[show dI t k ((aG s).drop (at_+1))=some (.if_ x y,r) by unfold dI;rw[h];simp only;rw[h2];rfl]
         exact ET t s at_ w hs hlt e40 x l hi y r hn hn hi2
      ·rw[show dI t k ((aG s).drop (at_+1))=none by unfold dI;rw[h];simp only;rw[h2];simp only;rw[if_neg he]]
       exact D3 t s at_ w hs hlt e40 x m l hi y e0 r he hi2
   ·obtain⟨i,hi,hit⟩:=x8 hb e49 e48 e33 e63 e40
    rw[hi,zP hit]
    refine(LA t s at_ w hs hlt i hi h1 h3 hit).mono ?_
    rintro e w' ⟨v,rfl,ho,hb2⟩
    rw[nF h1 h3 hit] at ho
    exact⟨v,at_+1,rfl,hlt,rfl,ho,hb2⟩
  ·rw[List.drop_eq_nil_of_le (by rw[bR];omega),tW]
   exact J4 t s at_ w hs (by omega)
theorem VW(t:Int)(s:ByteArray)(hs:s.size≤1048576)(h1:1≤t)(h3:t≤3):∀(k at_:Nat) (x:bD) (rest:List Nat),bM t k ((aG s).drop at_)=some (x,rest)→l4 t s at_ x rest:=by
 intro k
 induction k with
 |zero=>intro at_ x rest h;cases h
 |succ k ih=>
  intro at_ x rest h m W hm
  by_cases hlt:at_<s.size
  ·rw[mA hlt] at h
   rcases hb:kU t s[at_].toNat with _|_
   ·rw[CH t k _ _ hb] at h;cases h
   by_cases e49:s[at_].toNat=49
   ·rw[e49] at h;cases h
    exact TH t s at_ m W hs hlt e49
   by_cases e48:s[at_].toNat=48
   ·rw[e48] at h;cases h
    exact PK t s at_ m W hs hlt e48
   by_cases e33:s[at_].toNat=33
   ·rw[e33,wD] at h
    obtain⟨⟨y,r⟩,hy,e⟩:=Option.map_eq_some_iff.1 h
    cases e
    exact VF t s at_ m W hs hlt e33 h1 h3 hm y r (ih _ _ _ hy)
   by_cases e63:s[at_].toNat=63
   ·rw[e63,t8] at h
    obtain⟨⟨y,r⟩,hy,e⟩:=Option.map_eq_some_iff.1 h
    cases e
    exact TK t s at_ m W hs hlt e63 h1 h3 hm y r (ih _ _ _ hy)
   by_cases e40:s[at_].toNat=40
   ·rw[e40,sF] at h
    unfold dI at h
    split at h
    ·rename_i x1 m1 l2 hx1
     split at h
     ·rename_i y1 e0 r1 hy1
      split at h
      ·obtain⟨z,hz,e⟩:=Option.map_eq_some_iff.1 h
       cases e
       have hi2:∀a2:Nat,a2≤s.size→(aG s).drop a2=l2→l4 t s a2 y1 (e0::rest):=fun a2 _ hd=>ih a2 _ _ (by rw[hd];exact hy1)
       unfold zA at hz
       split at hz
       ·cases hz;rename_i hm1;subst hm1
        exact RX t s at_ m W hs hlt e40 hm x1 l2 (ih _ _ _ hx1) y1 e0 rest hi2
       split at hz
       ·cases hz;rename_i hm1;subst hm1
        exact SL t s at_ m W hs hlt e40 hm x1 l2 (ih _ _ _ hx1) y1 e0 rest hi2
       split at hz
       ·cases hz;rename_i hm1;subst hm1
        exact TX t s at_ m W hs hlt e40 hm x1 l2 (ih _ _ _ hx1) y1 e0 rest hi2
       ·cases hz
      ·cases h
     ·cases h
    ·cases h
   ·obtain⟨i,hi,hit⟩:=x8 hb e49 e48 e33 e63 e40
    rw[hi,zP hit] at h
    cases h
    exact OD t s at_ m W hs i hlt hi h1 h3 hit hm
  ·rw[List.drop_eq_nil_of_le (by rw[bR];omega),tW] at h
   cases h
end Go.Proofs.YtfhjcacfchkdpaaGreatDoor
