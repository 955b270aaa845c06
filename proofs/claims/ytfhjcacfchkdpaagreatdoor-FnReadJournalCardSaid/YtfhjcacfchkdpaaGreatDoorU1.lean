/-
  What the proofs of this seat's statements share (Math, Plain).
-/
import Derived.WalkKit
import Derived.Test.YtfhjcacfchkdpaaGreatDoorRows
import Derived.WalkSpells
import Derived.WalkLawsBesides
import Derived.Lib.Hide
import Derived.BigQuiet
import Derived.Deep.QuietTactic
import Derived.LoopTactic
import Derived.IntWalk
import Derived.Deep.RegionHeld3
set_option maxRecDepth 100000
set_option maxHeartbeats 32000000
namespace Go.Proofs.YtfhjcacfchkdpaaGreatDoor
open Go.RowKit
theorem zH{p:Prop}(h:p):Hid p:=Lib.hid h
theorem zS:(∀{α:Type}{xs:List α}{i:Nat}(h:i<xs.toArray.size),xs.toArray[i]=xs[i]'(by simpa using h))∧(∀{α:Type}(a:α)(l:List α)(i:Nat)(h:i+1<(a::l).length),(a::l)[i+1]=l[i]'(Nat.lt_of_succ_lt_succ h))∧(∀{α:Type}(a:α)(l:List α)(h:0<(a::l).length),(a::l)[0]=a)∧(∀{α:Type}(l:List α)(i:Nat)(a:α),l.toArray.setIfInBounds i a=(l.set i a).toArray)∧(∀{α:Type}{a b:α}{l:List α},(a::l).set 0 b=b::l)∧(∀{α:Type}{a b:α}{l:List α}{n:Nat},(a::l).set (n+1) b=a::l.set n b):=⟨List.getElem_toArray,List.getElem_cons_succ,List.getElem_cons_zero,List.setIfInBounds_toArray,List.set_cons_zero,List.set_cons_succ⟩
theorem zT{P:Program}{ops:Array Oper}{Q:Exit→Act→World→Prop}{md:Region.Mode}{S:World→Prop}(i:Nat){oi:Oper}{v:Value}{fuel:Nat}{listed:Array Bool}{a:Act}{w:World}(h1:ops[i]?=some oi:=by exact rfl)(h2:Region.noSelect ops=true:=by kernel_rfl)(h3:Region.free md ops listed i=true:=by kernel_rfl)(h4:(Region.ready md ops listed).contains i=true:=by kernel_rfl)(h5:∀(c:List PanicEntry) (a:Act) (w:World),Q (.panic c) (a.put oi.dst v) w→Q (.panic c) a w:=by exact fun _ _ _ h=>h)(h6:Region.wanted oi (yielded ops a.tmps)=true:=by rfl)(h7:∀w:World,S w→Sem.run P (execOp a.eval oi) w= .ok (.value v) w:=by ((intro wz hSw;(try dsimp only at hSw);go_simp)<;>with_reducible rfl))(h8:S w:=by assumption)(h:wpAnyH P md ops Q S fuel (listed.setIfInBounds i true) (a.put oi.dst v) w):wpAnyH P md ops Q S (fuel+1) listed a w:=wpAnyH_take h1 h2 h3 h4 h5 (.inl ⟨h6,h7⟩) h8 h
end Go.Proofs.YtfhjcacfchkdpaaGreatDoor
namespace Go.Proofs.YtfhjcacfchkdpaaGreatDoor
def aQ(a b:Int):Int:=((a.toNat &&& b.toNat:Nat):Int)
def fM(a b:Int):Int:=((a.toNat ||| b.toNat:Nat):Int)
def aB(a b:Int):Bool:=decide (aQ a b=a)
theorem EJ(a b:Nat):aQ (a:Int) (b:Int)=((a &&& b:Nat):Int):=rfl
theorem SW(a b:Nat):fM (a:Int) (b:Int)=((a ||| b:Nat):Int):=rfl
theorem aR(a b:Int):0≤aQ a b:=Int.natCast_nonneg _
theorem lC(a b:Int)(ha:0≤a):aQ a b≤a:=by
 have:a.toNat &&& b.toNat≤a.toNat:=Nat.and_le_left
 unfold aQ;omega
theorem uF(a b:Int)(hb:0≤b):aQ a b≤b:=by
 have:a.toNat &&& b.toNat≤b.toNat:=Nat.and_le_right
 unfold aQ;omega
theorem P6(a b k:Nat):(a &&& b)%2^(k+1)=(a &&& b)%2^k+(a / 2^k%2)*(b / 2^k%2)*2^k:=by
 have h:(a &&& b) / 2^k%2=(a / 2^k%2)*(b / 2^k%2):=by
  have:=Nat.testBit_and a b k
  simp only[Nat.testBit_eq_decide_div_mod_eq] at this
  rcases Nat.mod_two_eq_zero_or_one (a / 2^k) with h1|h1<;>rcases Nat.mod_two_eq_zero_or_one (b / 2^k) with h2|h2<;>
   rcases Nat.mod_two_eq_zero_or_one ((a &&& b) / 2^k) with h3|h3<;>simp_all
 rw[Nat.mod_pow_succ,h,Nat.mul_comm (2^k)]
theorem MG(a:Nat):∀b:Nat,(a ||| b)+(a &&& b)=a+b:=by
 induction a using Nat.strongRecOn with
 |_ a ih=>
  intro b
  rcases Nat.eq_zero_or_pos a with rfl|h
  ·simp
  ·have h2:=ih (a / 2) (by omega) (b / 2)
   have e1:(a ||| b) / 2=a / 2 ||| b / 2:=Nat.or_div_two
   have e2:(a &&& b) / 2=a / 2 &&& b / 2:=Nat.and_div_two
   rw[←e1,←e2] at h2
   have m1:(a ||| b)%2=a%2 ||| b%2:=by simpa using Nat.or_mod_two_pow (a:=a) (b:=b) (n:=1)
   have m2:(a &&& b)%2=a%2 &&& b%2:=by simpa using Nat.and_mod_two_pow (a:=a) (b:=b) (n:=1)
   rcases Nat.mod_two_eq_zero_or_one a with x|x<;>rcases Nat.mod_two_eq_zero_or_one b with y|y<;>rw[x,y] at m1 m2<;>(first|(have m1:(a ||| b)%2=0:=m1;have m2:(a &&& b)%2=0:=m2;omega)|(have m1:(a ||| b)%2=1:=m1;have m2:(a &&& b)%2=0:=m2;omega)|(have m1:(a ||| b)%2=1:=m1;have m2:(a &&& b)%2=1:=m2;omega))
theorem VJ(a b:Int)(ha:0≤a)(ha2:a<256)(hb:0≤b)(hb2:b<256):a+b-aQ a b=fM a b:=by
 have h:=MG a.toNat b.toNat
 unfold aQ fM;omega
theorem V8(a b:Int)(ha2:a<256)(hb2:b<256):fM a b<256:=by
 have:a.toNat ||| b.toNat<2^8:=Nat.or_lt_two_pow (by omega) (by omega)
 unfold fM;omega
theorem gB(a b:Int):0≤fM a b:=Int.natCast_nonneg _
theorem PO(a b:Int)(ha:0≤a)(ha2:a<256):aQ a b%256=aQ a b:=by
 have:=lC a b ha;have:=aR a b;omega
def aJ(t:Int):Int:=if t=1 then 3 else if t=2 then 15 else if t=3 then 255 else 0
theorem bH(t:Int):0≤aJ t∧aJ t<256:=by
 unfold aJ;split<;>(try split)<;>(try split)<;>omega
def eP(t:Int):Int:=if t=1 then 2 else if t=2 then 4 else if t=3 then 8 else-1
theorem mO{t:Int}(h:t<1∨3<t):eP t= -1:=by
 unfold eP;rw[if_neg (by omega),if_neg (by omega),if_neg (by omega)]
def aO(t s:Int):Bool:=decide (1≤t∧t≤3∧0≤s∧s≤aJ t)
theorem aZ{t s:Int}(h:aO t s=true):1≤t∧t≤3∧0≤s∧s≤aJ t∧s<256:=by
 have:=bH t
 have h:=of_decide_eq_true h
 omega
theorem N4(a b:Nat)(ha:a<1024)(hb:b<1024):(bits .andNot .i64 (a:Int) (b:Int)==0)=aB a b:=by
 have e:bits .andNot .i64 (a:Int) (b:Int)=((a &&& (2^64-(b+1)):Nat):Int):=by
  have hx:a &&& (2^64-(b+1))≤a:=Nat.and_le_left
  show IntKind.i64.wrap ((BitVec.ofInt 64 (a:Int) &&& ~~~BitVec.ofInt 64 (b:Int)).toNat:Int)=_
  rw[BitVec.toNat_and,BitVec.toNat_not,BitVec.ofInt_natCast,BitVec.ofInt_natCast,BitVec.toNat_ofNat,BitVec.toNat_ofNat,Nat.mod_eq_of_lt (by omega),Nat.mod_eq_of_lt (by omega),IntKind.wrap_i64,
   show 2^64-1-b=2^64-(b+1) by omega]
  omega
 rw[e]
 unfold aB aQ
 rw[Bool.eq_iff_iff]
 simp only[beq_iff_eq,decide_eq_true_eq,Int.toNat_natCast]
 have hb64:b<2^64:=by omega
 have ha64:a<2^64:=by omega
 constructor
 ·intro h
  have h:a &&& (2^64-(b+1))=0:=by omega
  congr 1
  apply Nat.eq_of_testBit_eq
  intro i
  have hi:=congrArg (fun x=>x.testBit i) h
  simp only[Nat.testBit_and,Nat.testBit_two_pow_sub_succ hb64,Nat.zero_testBit] at hi⊢
  by_cases h64:i<64
  ·cases h1:a.testBit i<;>cases h2:b.testBit i<;>simp_all
  ·rw[Nat.testBit_lt_two_pow (Nat.lt_of_lt_of_le ha64 (Nat.pow_le_pow_right (by omega) (by omega)))];rfl
 ·intro h
  have h:a &&& b=a:=by omega
  have h0:a &&& (2^64-(b+1))=0:=by
   apply Nat.eq_of_testBit_eq
   intro i
   have hi:=congrArg (fun x=>x.testBit i) h
   simp only[Nat.testBit_and,Nat.testBit_two_pow_sub_succ hb64,Nat.zero_testBit] at hi⊢
   cases h1:a.testBit i<;>cases h2:b.testBit i<;>simp_all
  omega
end Go.Proofs.YtfhjcacfchkdpaaGreatDoor
namespace Go.Proofs.YtfhjcacfchkdpaaGreatDoor
open Go.RowKit
theorem jR{k:IntKind}{a b:Int}(h:a=b):Ending.returned (.int k a)= .returned (.int k b):=by rw[h]
theorem aM{a b:Bool}(h:a=b):Ending.returned (.bool a)= .returned (.bool b):=by rw[h]
theorem eE(t:Int)(w:World):Calls Tryz.prog 58 #[.int .i64 t] w fun e w' =>e= .returned (.int .i64 (eP t))∧w=w' :=by
 by_cases h1:t<1
 ·go_enter Tryz.func58,Tryz.ntmps58
  go_wp2
  go_ret
  exact⟨jR (by rw[mO (by omega)]),rfl⟩
 ·by_cases h3:3<t
  ·go_enter Tryz.func58,Tryz.ntmps58
   go_wp2
   go_ret
   exact⟨jR (by rw[mO (by omega)]),rfl⟩
  ·have h:t=1∨t=2∨t=3:=by omega
   clear h1 h3
   rcases h with rfl|rfl|rfl
   all_goals
    go_enter Tryz.func58,Tryz.ntmps58
    go_wp2
    go_ret
    exact⟨rfl,rfl⟩
def vT(n a b:Int):Bool:=decide (a≤n∧n≤b)
theorem I3(n a b:Int)(w:World):Calls Tryz.prog 98 #[.int .i64 n,.int .i64 a,.int .i64 b] w fun e w' =>e= .returned (.bool (vT n a b))∧w=w' :=by
 by_cases h1:a≤n
 ·go_enter Tryz.func98,Tryz.ntmps98
  go_wp2
  go_ret
  exact⟨aM (by simp[vT,h1]),rfl⟩
 ·go_enter Tryz.func98,Tryz.ntmps98
  go_wp2
  go_ret
  exact⟨aM (by simp[vT];omega),rfl⟩
theorem hV(n a b:Int)(w:World)(h1:a≤n)(h2:n≤b):Calls Tryz.prog 98 #[.int .i64 n,.int .i64 a,.int .i64 b] w fun e w' =>e= .returned (.bool true)∧w=w' :=
 (I3 n a b w).mono fun _ _ ⟨he,hw⟩=>⟨he.trans (aM (by simp[vT,h1,h2])),hw⟩
theorem n4(n a b:Int)(w:World)(h:n<a∨b<n):Calls Tryz.prog 98 #[.int .i64 n,.int .i64 a,.int .i64 b] w fun e w' =>e= .returned (.bool false)∧w=w' :=
 (I3 n a b w).mono fun _ _ ⟨he,hw⟩=>⟨he.trans (aM (by simp[vT];omega)),hw⟩
theorem FE(t:Int)(w:World)(h1:1≤t)(h3:t≤3):Calls Tryz.prog 111 #[.int .i64 t] w fun e w' =>e= .returned (.int .i64 (aJ t))∧w=w' :=by
 have h:t=1∨t=2∨t=3:=by omega
 clear h1 h3
 rcases h with rfl|rfl|rfl
 all_goals
  go_enter Tryz.func111,Tryz.ntmps111
  go_wp2
  go_ret
  exact⟨rfl,rfl⟩
theorem BC{t s:Int}(h:t<1∨3<t):aO t s=false:=by unfold aO;simp;omega
theorem M2(t s:Int)(w:World):Calls Tryz.prog 104 #[.int .i64 t,.int .i64 s] w fun e w' =>e= .returned (.bool (aO t s))∧w=w' :=by
 by_cases h1:t<1∨3<t
 ·have hW:=zH (mO h1)
  go_enter Tryz.func104,Tryz.ntmps104
  go_wp2_with fail
  refine(eE _ _).mono ?_
  rintro e w' ⟨rfl,rfl⟩
  rw[hW.out]
  go_wp2_with fail
  go_ret
  exact⟨aM (by rw[BC h1]),rfl⟩
 ·have h:t=1∨t=2∨t=3:=by omega
  clear h1
  by_cases hs:0≤s
  ·rcases h with rfl|rfl|rfl
   all_goals
    go_enter Tryz.func104,Tryz.ntmps104
    go_wp2_with fail
    refine(eE _ _).mono ?_
    rintro e w' ⟨rfl,rfl⟩
    simp only[eP]
    go_wp2_with fail
    go_ret
    exact⟨aM (by unfold aO aJ;rw[Bool.eq_iff_iff];simp;omega),rfl⟩
  ·rcases h with rfl|rfl|rfl
   all_goals
    go_enter Tryz.func104,Tryz.ntmps104
    go_wp2_with fail
    refine(eE _ _).mono ?_
    rintro e w' ⟨rfl,rfl⟩
    simp only[eP]
    go_wp2_with fail
    go_ret
    exact⟨aM (by unfold aO aJ;rw[Bool.eq_iff_iff];simp;omega),rfl⟩
theorem zV(t s:Int)(w:World):Calls Tryz.prog 89 #[.int .i64 t,.int .i64 s] w fun e w' =>e= .returned (.bool (aO t s))∧w=w' :=by
 by_cases h1:t<1∨3<t
 ·go_enter Tryz.func89,Tryz.ntmps89
  go_wp2_with (go_at_call 98;refine(n4 _ _ _ _ h1).mono ?_;rintro e w' ⟨rfl,rfl⟩)
  go_ret
  exact⟨aM (by rw[BC h1]),rfl⟩
 ·go_enter Tryz.func89,Tryz.ntmps89
  go_wp2_with fail
  refine(hV _ _ _ _ (by omega) (by omega)).mono ?_
  rintro e w' ⟨rfl,rfl⟩
  go_wp2_with fail
  refine(FE _ _ (by omega) (by omega)).mono ?_
  rintro e w' ⟨rfl,rfl⟩
  go_wp2_with fail
  refine(I3 _ _ _ _).mono ?_
  rintro e w' ⟨rfl,rfl⟩
  go_wp2_with fail
  go_ret
  exact⟨aM (by unfold aO vT;rw[Bool.eq_iff_iff];simp;omega),rfl⟩
theorem OL(m p q:Nat)(hm:m<p)(hp:p≤128)(hq:q≤1):wrap64 (↑m+wrap64 (wrap64 ↑q*↑p))=((m+q*p:Nat):Int):=by
 have h:q=0∨q=1:=by omega
 rcases h with rfl|rfl
 ·rw[IntWalk.wrap64_in ((0:Nat):Int) ⟨by omega,by omega⟩,IntWalk.wrap64_in (((0:Nat):Int)*(p:Int)) ⟨by omega,by omega⟩,IntWalk.wrap64_in _ ⟨by omega,by omega⟩];omega
 ·rw[IntWalk.wrap64_in ((1:Nat):Int) ⟨by omega,by omega⟩,IntWalk.wrap64_in (((1:Nat):Int)*(p:Int)) ⟨by omega,by omega⟩,IntWalk.wrap64_in _ ⟨by omega,by omega⟩];omega
theorem wX(a p:Nat):((a:Int) / (p:Int)).tmod 2=((a / p%2:Nat):Int):=by
 have e:(a:Int) / (p:Int)=((a / p:Nat):Int):=(Int.natCast_ediv a p).symm
 rw[e,Int.tmod_eq_emod_of_nonneg (Int.natCast_nonneg _)];omega
theorem KF(a b k:Nat)(hk:k<8):
  wrap64 (↑(a &&& b)%2^k+wrap64 (wrap64 (((a:Int) / 2^k).tmod 2*((b:Int) / 2^k).tmod 2)*2^k))=(((a &&& b)%2^(k+1):Nat):Int):=by
 have hp:2^k≤128:=by
  have:2^k≤2^7:=Nat.pow_le_pow_right (by omega) (by omega)
  omega
 have hm:(a &&& b)%2^k<2^k:=Nat.mod_lt _ (Nat.two_pow_pos k)
 have e4:(2:Int)^k=((2^k:Nat):Int):=by push_cast;rfl
 have hx:a / 2^k%2<2:=Nat.mod_lt _ (by omega)
 have hy:b / 2^k%2<2:=Nat.mod_lt _ (by omega)
 have hq:(a / 2^k%2)*(b / 2^k%2)≤1:=by
  have:=Nat.mul_le_mul (show a / 2^k%2≤1 by omega) (show b / 2^k%2≤1 by omega)
  simpa using this
 rw[P6 a b k,e4,wX,wX,←Int.natCast_emod,←Int.natCast_mul]
 exact OL _ _ _ hm hp hq
theorem V4(a b:Nat)(_:a<1024)(_:b<1024)(w:World):Calls Tryz.prog 66 #[.int .i64 a,.int .i64 b] w fun e w' =>e= .returned (.int .i64 ((a &&& b)%256:Nat))∧∃n,w' =w.drewN n:=by
 go_enter Tryz.func66,Tryz.ntmps66
 go_wp2
 go_loopw [5,6] (fun t i wr=>∃k:Nat,k≤8∧i= .int .i64 k∧t= .int .i64 ((a &&& b)%2^k:Nat)∧∃n,wr=w.drewN n) (fun _ i _=>8-(Go.RowKit.intOf i).toNat)
 case atStart=>exact⟨0,by omega,rfl,by simp[Nat.mod_one],0,rfl⟩
 case round=>
  obtain⟨k,hk,rfl,rfl,n,rfl⟩:=hrel
  by_cases hlt:k<8
  ·go_wp2
   go_quiet (fail)
   go_wp2
   go_roundw
   case rel=>exact⟨k+1,by omega,by go_num,by rw[KF a b k hlt],_,rfl⟩
   case measure=>simp[Go.RowKit.intOf];omega
  ·obtain rfl:k=8:=by omega
   go_wp2
   go_ret
   exact⟨rfl,_,rfl⟩
theorem XE(a b:Int)(ha:0≤a)(ha2:a<1024)(hb:0≤b)(hb2:b<1024)(w:World):
  Calls Tryz.prog 66 #[.int .i64 a,.int .i64 b] w fun e w' =>e= .returned (.int .i64 (aQ a b%256))∧∃n,w' =w.drewN n:=by
 obtain⟨a,rfl⟩:=Int.eq_ofNat_of_zero_le ha
 obtain⟨b,rfl⟩:=Int.eq_ofNat_of_zero_le hb
 exact(V4 a b (by omega) (by omega) w).mono fun e w' ⟨he,hw⟩=>⟨he.trans (jR (by rw[EJ];omega)),hw⟩
theorem tA(a b:Int)(ha:0≤a)(ha2:a<256)(hb:0≤b)(hb2:b<256)(w:World):
  Calls Tryz.prog 66 #[.int .i64 a,.int .i64 b] w fun e w' =>e= .returned (.int .i64 (aQ a b))∧∃n,w' =w.drewN n:=
 (XE a b ha (by omega) hb (by omega) w).mono fun _ _ ⟨he,hw⟩=>⟨he.trans (jR (PO a b ha ha2)),hw⟩
theorem xQ(a b:Int)(ha:0≤a)(ha2:a<1024)(hb:0≤b)(hb2:b<1024)(w:World):
  Calls Tryz.prog 119 #[.int .i64 a,.int .i64 b] w fun e w' =>e= .returned (.bool (aB a b))∧w=w' :=by
 obtain⟨a,rfl⟩:=Int.eq_ofNat_of_zero_le ha
 obtain⟨b,rfl⟩:=Int.eq_ofNat_of_zero_le hb
 have h:=zH (N4 a b (by omega) (by omega))
 go_enter Tryz.func119,Tryz.ntmps119
 go_wp2
 go_ret
 exact⟨aM h.out,rfl⟩
theorem sS(a b:Int)(ha:0≤a)(ha2:a<256)(hb:0≤b)(hb2:b<256)(w:World):
  Calls Tryz.prog 99 #[.int .i64 a,.int .i64 b] w fun e w' =>e= .returned (.bool (aB a b))∧∃n,w' =w.drewN n:=by
 go_enter Tryz.func99,Tryz.ntmps99
 go_wp2_with fail
 refine(tA a b ha ha2 hb hb2 _).mono ?_
 rintro e w' ⟨rfl,n,rfl⟩
 go_wp2_with fail
 go_ret
 exact⟨aM (by unfold aB;rw[Bool.eq_iff_iff];simp),_,rfl⟩
end Go.Proofs.YtfhjcacfchkdpaaGreatDoor
