/-
  What the proofs of this seat's statements share (FrmS, StrC, MrkT, DdM, TlkL, MrkS, TlkQ, TlkR).
-/
import Derived.WalkKit
import Derived.ProofKit
import Derived.OpenShut
import Derived.ChangeOld
import Derived.SliceStrings
import Derived.Laws.Strings
import Derived.Laws.BytesArg
import Derived.RangeFuncBox
import Derived.Deep.RegionHeld3
import Derived.Test.YtfhjcacfchkdpaaGreatDoorU22
import Derived.Test.YtfhjcacfchkdpaaGreatDoorU30
set_option maxRecDepth 100000
set_option maxHeartbeats 32000000
namespace Go.Proofs.YtfhjcacfchkdpaaGreatDoor
open Go.ChangeShapes Go.WideShapes Go.ChangeAt Go.RowKit
section
variable {H:Type} {enc:TypeId×Value→H} {w:World} {base:Nat} {spare:Nat→Bool} {held:Bool}
theorem uV{fuel:Nat}{v:Value}{x:DataW H×List MemPlace}(h:DataW.trod enc Tryz.prog w base spare held fuel 28 [v]=some x):
  ∃(A:Option Addr) (ss:List ByteArray) (c:Nat),v= .slice A ss.length c∧ss.length≤c∧c≤maxLen∧a7 w A ss∧∀s∈ss,s.size≤maxLen:=by
 rcases open_strings Tryz.underlying28 Tryz.underlying9 (by kernel_rfl) h with⟨hcs,_⟩|⟨a,l,c,ss,hcs,_,hl,hm,hlen,_,hcell,hsz⟩
 ·simp only[List.cons.injEq,and_true] at hcs
  subst hcs
  exact⟨none,[],0,rfl,Nat.le_refl _,Nat.zero_le _,a7.nil _ _,fun s hs=>by cases hs⟩
 ·simp only[List.cons.injEq,and_true] at hcs
  subst hcs
  have hls:l≤ss.length:=by rw[hlen];split<;>omega
  have hlt:(ss.take l).length=l:=by rw[List.length_take];omega
  refine⟨some a,ss.take l,c,by rw[hlt],by rw[hlt];exact hl,hm,fun hp=> ?_,fun s hs=>hsz s (List.mem_of_mem_take hs)⟩
  rw[hlt] at hp
  have h0:=hcell 0 (by omega)
  obtain⟨b,off,spot⟩:=a
  have hs:spot=none:=by simpa [Addr.add] using World.cell?_spot h0
  subst hs
  refine⟨b,off,rfl,World.block_lt_of_cell? w _ h0,fun i hi=> ?_⟩
  rw[hlt] at hi
  have:=hcell i (by omega)
  have e:(⟨b,off,none⟩:Addr).add i=⟨b,off+i,none⟩:=by unfold Addr.add;split<;>simp_all
  rw[e] at this
  rw[this]
  simp[hi]
end
end Go.Proofs.YtfhjcacfchkdpaaGreatDoor
namespace Go.Proofs.YtfhjcacfchkdpaaGreatDoor
open Go.RowKit
def uM(xs:List ByteArray)(k:Nat):Nat→Value:=fun j=>if j<k then .string (xs.getD j ByteArray.empty) else .string ByteArray.empty
theorem KS{w:World}{g:Nat}{xs:List ByteArray}{k:Nat}{x:ByteArray}(h:w.rowIs g 9 xs.length (uM xs k))(hx:Hid (xs[k]? =some x)):(w.setCell ⟨g,k,none⟩ (.string x)).rowIs g 9 xs.length (uM xs (k+1)):=by
 refine(h.set k _).congr fun j hj=> ?_
 unfold uM
 by_cases e:j=k
 ·subst e
  rw[if_pos rfl,if_pos (by omega),List.getD_eq_getElem?_getD,hx.out];rfl
 ·rw[if_neg e]
  by_cases h1:j<k
  ·rw[if_pos h1,if_pos (by omega)]
  ·rw[if_neg h1,if_neg (by omega)]
theorem GS{w:World}{base g:Nat}{xs:List ByteArray}(h:w.rowIs g 9 xs.length (uM xs xs.length))(hb:base≤g)(hm:xs.length≤maxLen):aK w base (.slice (some ⟨g,0,none⟩) xs.length xs.length) xs:=by
 obtain⟨c,hg,hn,hc⟩:=h
 refine⟨by simp,.inr ⟨g,xs.length,c,rfl,hb,hg,Nat.le_refl _,hm,by omega,?_⟩⟩
 apply List.ext_getElem?
 intro i
 rw[List.getElem?_take,List.getElem?_map]
 by_cases hi:i<xs.length
 ·rw[if_pos (by omega),Array.getElem?_toList,hc i hi]
  simp[uM,hi]
 ·rw[if_neg (by omega),List.getElem?_eq_none (by omega)];rfl
theorem LZ(A:Option Addr)(nn c:Nat)(xs:List ByteArray)(w:World)(hn:nn=xs.length)(hl:nn≤1048576)(hA:a7 w A xs):
  Calls Tryz.prog 34 #[.slice A nn c] w fun e w' =>∃v,e= .returned v∧aK w' w.heap.size v xs∧Below w.heap.size w w' :=by
 subst hn
 have HA:=zH hA
 clear hA
 have hmk:=fun W=>run_make_row' (P:=Tryz.prog) 28 9 (.string ByteArray.empty) 16 Tryz.underlying28 uN rfl .i64 .i64 xs.length (by omega) (by omega) W
 go_enter Tryz.func34,Tryz.ntmps34
 go_wp2_with fail
 clear hmk
 go_loopw [4] (fun i wr=>∃k:Nat,k≤xs.length∧i= .int .i64 k∧wr.rowIs w.heap.size 9 xs.length (uM xs k)∧Below w.heap.size w wr) (fun i _=>xs.length-(Go.RowKit.intOf i).toNat)
 case atStart=>exact⟨0,Nat.zero_le _,rfl,World.rowIs_made _ _ _ _,(Below.refl _ _).alloc (Nat.le_refl _) _⟩
 case round=>
  obtain⟨k,hk,rfl,hrow,hbel⟩:=hrel
  have HB:=zH hbel
  have HW:=zH hrow
  clear hbel hrow
  by_cases hlt:k<xs.length
  ·obtain⟨b,off,x,rfl,hcell,hx,_⟩:=(HA.out.below HB.out).elem hlt
   have hc1:=HW.out.cell hlt
   have hf1:=HW.out.frozen k
   unfold uM at hc1
   rw[if_neg (by omega)] at hc1
   go_wp2
   go_roundw
   case rel=>exact⟨k+1,by omega,by go_num,KS HW.out hx,HB.out.setCell (Nat.le_refl _) _⟩
   case measure=>simp[Go.RowKit.intOf];omega
  ·obtain rfl:k=xs.length:=by omega
   go_wp2
   go_ret
   exact⟨_,rfl,GS HW.out (Nat.le_refl _) (by unfold maxLen;omega),HB.out⟩
theorem KO(A B:Option Addr)(nn mm c d:Nat)(xs ys:List ByteArray)(w:World)(hn:nn=xs.length)(hm:mm=ys.length)(hl:nn≤1048576)(hl2:mm≤1048576)(hA:a7 w A xs)(hB:a7 w B ys):
  Calls Tryz.prog 35 #[.slice A nn c,.slice B mm d] w fun e w' =>e= .returned (.bool (decide (xs=ys)))∧∃n,w' =w.drewN n:=by
 subst hn hm
 have HA:=zH hA
 have HB:=zH hB
 clear hA hB
 by_cases hlen:xs.length=ys.length
 ·have hd:((xs.length:Int) != (ys.length:Int))=false:=by simp;omega
  have HL:=zH hlen
  have hle1:xs.length≤ys.length:=by omega
  have hle2:ys.length≤xs.length:=by omega
  clear hlen
  go_enter Tryz.func35,Tryz.ntmps35
  go_wp2
  go_loopw [5] (fun i wr=>∃k:Nat,k≤xs.length∧i= .int .i64 k∧Hid (xs.take k=ys.take k)∧∃n,wr=w.drewN n) (fun i _=>xs.length-(Go.RowKit.intOf i).toNat)
  case atStart=>exact⟨0,Nat.zero_le _,rfl,rfl,0,rfl⟩
  case round=>
   obtain⟨k,hk,rfl,hsofar,n,rfl⟩:=hrel
   by_cases hlt:k<xs.length
   ·have hlt2:k<ys.length:=by omega
    obtain⟨b,off,x,rfl,hcell,hx,_⟩:=HA.out.elem hlt
    obtain⟨b',off',y,rfl,hcell',hy,_⟩:=HB.out.elem hlt2
    by_cases hxy:x=y
    ·have HXY:=zH hxy
     subst hxy
     go_wp2
     go_quiet (fail)
     go_wp2
     exact⟨⟨k+1,by omega,by go_num,by unfold Hid;rw[nN hx,nN hy,hsofar.out],_,rfl⟩,by simp[Go.RowKit.intOf];omega⟩
    ·have hxy' :(x.toList==y.toList)=false:=lT hxy
     have HXY:=zH hxy
     go_wp2
     go_quiet (fail)
     go_wp2
     go_ret
     exact⟨aM (by symm;apply decide_eq_false;intro e;subst e;have:=hx.out.symm.trans hy.out;cases this;exact HXY.out rfl),_,World.drewN_drewN _ _ _⟩
   ·obtain rfl:k=xs.length:=by omega
    have HE:Hid (xs=ys):=by
     have:=hsofar.out
     rw[List.take_length,HL.out,List.take_length] at this
     exact this
    clear hsofar
    go_wp2
    go_ret
    exact⟨aM (by rw[decide_eq_true HE.out]),_,rfl⟩
 ·have hd:((xs.length:Int) != (ys.length:Int))=true:=by simp;omega
  have HL:=zH hlen
  clear hlen
  go_enter Tryz.func35,Tryz.ntmps35
  go_wp2
  go_ret
  exact⟨aM (by symm;apply decide_eq_false;intro e;exact HL.out (by rw[e])),0,rfl⟩
def wV(k:Nat):List UInt8:=if k=0 then[] else fS k
theorem MS{k:Nat}(h:0<k):wV k=wV (k / 10)++[(48+k%10).toUInt8]:=by
 unfold wV
 rw[if_neg (by omega)]
 by_cases h10:k<10
 ·rw[if_pos (by omega)]
  unfold fS
  rw[if_pos h10,Nat.mod_eq_of_lt h10];rfl
 ·rw[if_neg (by omega)]
  conv=>lhs;unfold fS
  rw[if_neg h10]
def rR(k:Nat):ByteArray:=cJ (109::wV k)
theorem RW(d:Nat)(h:d<10):bL (strOfNums [(48:Int)+(d:Int)])=[(48+d).toUInt8]:=by
 have:d=0∨d=1∨d=2∨d=3∨d=4∨d=5∨d=6∨d=7∨d=8∨d=9:=by omega
 rcases this with rfl|rfl|rfl|rfl|rfl|rfl|rfl|rfl|rfl|rfl<;>decide
theorem DE(v:Int):(strOfNums [v]).size=1:=rfl
theorem P7(v:Int)(w:World):(convert 22 9 (.slice (some ⟨w.heap.size,0,none⟩) 1 1)).run Tryz.prog (w.alloc (.cells #[.int .u8 v] 5))= .ok (.string (strOfNums [v])) (w.alloc (.cells #[.int .u8 v] 5)):=
 run_convert_bytes_arg _ 22 5 Tryz.underlying22 Tryz.underlying5 _ 0 1 1 [v] rfl (fun i hi=>by
  obtain rfl:i=0:=by omega
  exact(Boxed.new w 5 (.int .u8 v)).cell) _ Tryz.underlying9
theorem DP(k0:Nat)(h1:1≤k0)(h2:k0≤1125899906842624)(w:World):
  Calls Tryz.prog 83 #[.int .i64 k0] w fun e w' =>e= .returned (.string (rR k0))∧Below w.heap.size w w' :=by
 have hcv:=fun(v:Int) W=>P7 v W
 have hd:decide ((k0:Int)≤0)=false:=decide_eq_false (by omega)
 go_enter Tryz.func83,Tryz.ntmps83
 go_wp2_with fail
 clear hd
 go_loopw [0,3] (fun q o wr=>∃(k:Nat) (u:ByteArray),k≤k0∧q= .int .i64 k∧o= .string u∧u.size≤k0-k∧Hid (wV k++bL u=wV k0)∧Hid (Below w.heap.size w wr)) (fun q _ _=>(Go.RowKit.intOf q).toNat)
 case atStart=>exact⟨k0,⟨#[]⟩,Nat.le_refl _,rfl,rfl,Nat.zero_le _,List.append_nil _,Below.refl _ _⟩
 case round=>
  obtain⟨k,u,hk,rfl,rfl,hus,HN,HB⟩:=hrel
  by_cases hlt:0<k
  ·have hd:decide ((0:Int)<(k:Int))=true:=decide_eq_true (by omega)
   have hz:(9223372036854775807<(strOfNums [(48:Int)+(k:Int)%10]).size+u.size)=False:=by rw[DE];simp;omega
   have HNX:Hid (wV (k / 10)++bL (strOfNums [(48:Int)+(k:Int)%10]++u)=wV k0):=by
    unfold Hid
    rw[←HN.out,MS hlt,lD,show(48:Int)+(k:Int)%10=(48:Int)+((k%10:Nat):Int) by omega,RW _ (by omega),List.append_assoc]
   have HSZ:Hid ((strOfNums [(48:Int)+(k:Int)%10]++u).size≤k0-k / 10):=by
    unfold Hid
    rw[ByteArray.size_append,DE];omega
   go_wp2_with fail
   go_roundw
   case rel=>exact⟨k / 10,_,by omega,by go_num,rfl,HSZ.out,HNX,HB.out.alloc HB.out.size _⟩
   case measure=>simp[Go.RowKit.intOf];omega
  ·obtain rfl:k=0:=by omega
   have hz:(9223372036854775807<1+u.size)=False:=by simp;omega
   have HE:Hid (⟨#[109]⟩++u=rR k0):=by
    apply gI
    unfold rR
    rw[lD,kO,←HN.out];rfl
   go_wp2_with fail
   go_ret
   exact⟨by rw[←HE.out]<;>rfl,HB.out⟩
theorem OE{w w' :World}(hb:Below w.heap.size w w')(row:Option Nat):w.grownBy w' row:=⟨hb.os,hb.tape,hb.output,hb.size,fun k hk _=>hb.block k hk⟩
theorem AW(A B:Option Addr)(nn mm c d:Nat)(xs:List ByteArray)(w:World)(hn:nn=xs.length)(hm:mm=xs.length)(hl:nn≤1048576)(hA:a7 w A xs)(hB:a7 w B xs):
  Calls Tryz.prog 35 #[.slice A nn c,.slice B mm d] w fun e w' =>e= .returned (.bool true)∧∃n,w' =w.drewN n:=by
 refine(KO A B nn mm c d xs xs w hn hm hl (by omega) hA hB).mono ?_
 rintro e w' ⟨rfl,h⟩
 exact⟨by rw[decide_eq_true rfl],h⟩
theorem FY(k:Int)(A B:Option Addr)(n m c d:Nat)(xs:List ByteArray)(w:World)(hn:n=xs.length)(hm:m=xs.length)(hl:n≤1048576)(hA:a7 w A xs)(hB:a7 w B xs):
  Calls Tryz.prog 77 #[.agg #[.int .i64 k,.slice A n c],.agg #[.int .i64 k,.slice B m d]] w fun e w' =>e= .returned (.bool true)∧Below w.heap.size w w' :=by
 have hb:Below w.heap.size w ((w.alloc (.cells #[.int .i64 k,.slice A n c] 30)).alloc (.cells #[.int .i64 k,.slice B m d] 30)):=((Below.refl _ _).alloc (Nat.le_refl _) _).alloc (by rw[World.size_alloc];omega) _
 have HB0:=zH hb
 have HC:=zH (AW A B n m c d xs _ hn hm hl (hA.below hb) (hB.below hb))
 have hd:(k != k)=false:=by simp
 clear hb hn hm hl hA hB
 go_enter Tryz.func77,Tryz.ntmps77
 go_wp2_with fail
 refine HC.out.mono ?_
 rintro e w' ⟨rfl,q,rfl⟩
 go_wp2_with fail
 go_ret
 exact⟨rfl,aE HB0.out _⟩
theorem NK(A B:Option Addr)(n m c d:Nat)(xs:List (St ByteArray))(w:World)(hn:n=xs.length)(hm:m=xs.length)(hl:n≤1048576)(hA:b6 w A xs)(hB:b6 w B xs)(hs:∀x∈xs,x.op.length≤1048576):
  Calls Tryz.prog 78 #[.slice A n c,.slice B m d] w fun e w' =>e= .returned (.bool true)∧Below w.heap.size w w' :=by
 subst hn hm
 have HA:=zH hA
 have HB:=zH hB
 have HS:=zH hs
 have hd:((xs.length:Int) != (xs.length:Int))=false:=by simp
 clear hA hB hs
 go_enter Tryz.func78,Tryz.ntmps78
 go_wp2_with fail
 clear hd
 go_loopw [5] (fun i wr=>∃k:Nat,k≤xs.length∧i= .int .i64 k∧Hid (Below w.heap.size w wr)) (fun i _=>xs.length-(Go.RowKit.intOf i).toNat)
 case atStart=>exact⟨0,Nat.zero_le _,rfl,Below.refl _ _⟩
 case round=>
  obtain⟨k,hk,rfl,HBW⟩:=hrel
  by_cases hlt:k<xs.length
  ·obtain⟨b,off,Ai,ci,x,rfl,he0,he1,_,_,hx,hAi,hb1⟩:=(HA.out.below HBW.out).elem hlt
   obtain⟨b',off',Aj,cj,y,rfl,he2,he3,_,_,hy,hAj,hb2⟩:=(HB.out.below HBW.out).elem hlt
   have e:=hx.out.symm.trans hy.out
   simp only[Option.some.injEq] at e
   subst e
   have hxl:=HS.out x (List.mem_of_getElem? hx.out)
   have HC:Hid (∀W:World,a7 W Ai x.op→a7 W Aj x.op→Calls Tryz.prog 77 #[.agg #[.int .i64 x.known,.slice Ai x.op.length ci],.agg #[.int .i64 x.known,.slice Aj x.op.length cj]] W fun e w' =>e= .returned (.bool true)∧Below W.heap.size W w'):=fun W h1 h2=>FY _ _ _ _ _ _ _ x.op W rfl rfl hxl h1 h2
   go_wp2_with fail
   go_region_held3 (fun w' =>w'.cell? ⟨b,off+k*2,none⟩=some (.int .i64 x.known)∧w'.cell? ⟨b,off+k*2+1,none⟩=some (.slice Ai x.op.length ci)∧w'.cell? ⟨b',off' +k*2,none⟩=some (.int .i64 x.known)∧w'.cell? ⟨b',off' +k*2+1,none⟩=some (.slice Aj x.op.length cj))
    (first|go_keep|exact⟨he0,he1,he2,he3⟩|exact HKEEP.out)
    (first|(go_at_call 77;refine(HC.out _ (hAi.out.drewN 1) (hAj.out.drewN 1)).mono ?_;rintro e w1 ⟨rfl,hb⟩;have HKEEP:=zH (And.intro (((Below.cell hb (p:=⟨b,off+k*2,none⟩)) hb1.out).trans he0) (And.intro (((Below.cell hb (p:=⟨b,off+k*2+1,none⟩)) hb1.out).trans he1) (And.intro (((Below.cell hb (p:=⟨b',off' +k*2,none⟩)) hb2.out).trans he2) (((Below.cell hb (p:=⟨b',off' +k*2+1,none⟩)) hb2.out).trans he3))));have HB2:=zH (aA (aE HBW.out 1) hb);clear hb))
   all_goals
    go_wp2_with fail
    go_roundw
    case rel=>exact⟨k+1,by omega,by go_num,HB2⟩
    case measure=>simp[Go.RowKit.intOf];omega
  ·obtain rfl:k=xs.length:=by omega
   go_wp2_with fail
   go_ret
   exact⟨rfl,HBW.out⟩
theorem xT(T:aL)(A B A2 B2:Option Addr)(n c m d n2 c2 m2 d2:Nat)(w:World)(hT:bN w T A n c B m d)(hU:bN w T A2 n2 c2 B2 m2 d2)(hs:cD T):
  Calls Tryz.prog 30 #[.agg #[.int .i64 T.things,.int .i64 T.now.known,.slice A n c,.slice B m d],.agg #[.int .i64 T.things,.int .i64 T.now.known,.slice A2 n2 c2,.slice B2 m2 d2]] w fun e w' =>e= .returned (.bool true)∧Below w.heap.size w w' :=by
 obtain⟨t,ht⟩:∃t,T.things=t:=⟨_,rfl⟩
 obtain⟨k,hk⟩:∃k,T.now.known=k:=⟨_,rfl⟩
 rw[ht,hk]
 clear ht hk
 have HX0:Hid (aD ((w.alloc (.cells #[.int .i64 t,.int .i64 k,.slice A n c,.slice B m d] 33)).alloc (.cells #[.int .i64 t,.int .i64 k,.slice A2 n2 c2,.slice B2 m2 d2] 33)) w.heap.size 33 [.int .i64 t,.int .i64 k,.slice A n c,.slice B m d]):=(aD.new w _ [.int .i64 t,.int .i64 k,.slice A n c,.slice B m d]).alloc _
 have HX1:Hid (aD ((w.alloc (.cells #[.int .i64 t,.int .i64 k,.slice A n c,.slice B m d] 33)).alloc (.cells #[.int .i64 t,.int .i64 k,.slice A2 n2 c2,.slice B2 m2 d2] 33)) (w.heap.size+1) 33 [.int .i64 t,.int .i64 k,.slice A2 n2 c2,.slice B2 m2 d2]):=by
  have:=aD.new (w.alloc (.cells #[.int .i64 t,.int .i64 k,.slice A n c,.slice B m d] 33)) 33 [.int .i64 t,.int .i64 k,.slice A2 n2 c2,.slice B2 m2 d2]
  rw[World.size_alloc] at this
  exact this
 have HB0:Hid (Below w.heap.size w ((w.alloc (.cells #[.int .i64 t,.int .i64 k,.slice A n c,.slice B m d] 33)).alloc (.cells #[.int .i64 t,.int .i64 k,.slice A2 n2 c2,.slice B2 m2 d2] 33))):=((Below.refl _ _).alloc (Nat.le_refl _) _).alloc (by rw[World.size_alloc];omega) _
 have HT:=zH hT
 have HU:=zH hU
 have HS:=zH hs
 have hd:(t != t)=false:=by simp
 have HC:Hid (∀W:World,Below w.heap.size w W→Calls Tryz.prog 77 #[.agg #[.int .i64 k,.slice A n c],.agg #[.int .i64 k,.slice A2 n2 c2]] W fun e w' =>e= .returned (.bool true)∧Below W.heap.size W w'):=fun W hb=>FY _ _ _ _ _ _ _ T.now.op W hT.hn hU.hn (by rw[hT.hn];exact hs.op) (hT.hA.below hb) (hU.hA.below hb)
 have HC2:Hid (∀W:World,Below w.heap.size w W→Calls Tryz.prog 78 #[.slice B m d,.slice B2 m2 d2] W fun e w' =>e= .returned (.bool true)∧Below W.heap.size W w'):=fun W hb=>NK _ _ _ _ _ _ T.past W hT.pn hU.pn (by rw[hT.pn];exact hs.past) (hT.hB.below hb) (hU.hB.below hb) fun x hx=>(hs.ops x hx).1
 clear hT hU hs
 go_enter Tryz.func30,Tryz.ntmps30
 go_wp2_with fail
 refine(HC.out _ HB0.out).mono ?_
 rintro e w1 ⟨rfl,hb⟩
 have HX2:=zH (HX0.out.below hb)
 have HX3:=zH (HX1.out.below hb)
 have HB1:=zH (aA HB0.out hb)
 have hc3:=HX2.out.cell (i:=3) (v:= .slice B m d) rfl
 have hd3:=HX3.out.cell (i:=3) (v:= .slice B2 m2 d2) rfl
 clear hb hd
 go_wp2_with fail
 refine(HC2.out _ HB1.out).mono ?_
 rintro e w2 ⟨rfl,hb⟩
 have HB2:=zH (aA HB1.out hb)
 clear hb hc3 hd3
 go_wp2_with fail
 go_ret
 exact⟨rfl,HB2.out⟩
def iM(k n:Nat):List ByteArray:=(List.range n).map fun i:Nat=>rR (k+i)
theorem pA(k n:Nat):(iM k n).length=n:=by unfold iM;simp
theorem NF{k n i:Nat}{g:ByteArray}(h:Hid ((iM k n)[i]? =some g)):g=rR (k+i):=by
 have h:=h.out
 unfold iM at h
 rw[List.getElem?_map] at h
 by_cases hi:i<n
 ·rw[List.getElem?_range hi] at h
  simp only[Option.map_some,Option.some.injEq] at h
  exact h.symm
 ·rw[List.getElem?_eq_none (by simp;omega)] at h
  cases h
theorem vR(A:Option Addr)(n c:Nat)(k0:Nat)(w:World)(hk:1≤k0)(hk2:k0≤35184372088832)(hn:n≤1048576)(ha:a7 w A (iM k0 n)):
  Calls Tryz.prog 37 #[.slice A n c,.int .i64 k0] w fun e w' =>e= .returned (.int .i64 ((k0+n:Nat):Int))∧Below w.heap.size w w' :=by
 have HA:=zH ha
 clear ha
 go_enter Tryz.func37,Tryz.ntmps37
 go_wp2_with fail
 go_loopw [1,5] (fun q i wr=>∃k:Nat,k≤n∧i= .int .i64 k∧q= .int .i64 ((k0+k:Nat):Int)∧Hid (Below w.heap.size w wr)) (fun _ i _=>n-(Go.RowKit.intOf i).toNat)
 case atStart=>exact⟨0,Nat.zero_le _,rfl,by simp,Below.refl _ _⟩
 case round=>
  obtain⟨k,hk',rfl,rfl,HB⟩:=hrel
  by_cases hlt:k<n
  ·obtain⟨b,off,g,rfl,hc0,hx,hbl⟩:=(HA.out.below HB.out).elem (i:=k) (by rw[pA];exact hlt)
   have HGM:=zH (NF hx)
   clear hx
   have hd2:=sW g
   obtain⟨p,HP⟩:∃p:Nat,Hid (p=k0+k):=⟨_,rfl⟩
   have hp1:1≤p:=by rw[HP.out];omega
   have hp2:p≤35184372088832+1048576:=by rw[HP.out];omega
   have hpe:((k0+k:Nat):Int)=(p:Int):=by rw[HP.out]
   rw[hpe]
   have HM:Hid (∀W:World,Calls Tryz.prog 83 #[.int .i64 (p:Int)] W fun e w' =>e= .returned (.string g)∧Below W.heap.size W w'):=fun W=>by
    have:=DP p (by omega) (by omega) W
    rw[HP.out,←HGM.out] at this
    rw[HP.out];exact this
   clear hpe
   go_wp2_with fail
   go_region_held3 (fun w' =>w'.cell? ⟨b,off+k,none⟩=some (.string g))
    (first|go_keep|exact hc0|exact HKEEP.out)
    (first|(go_at_call 83;refine(HM.out _).mono ?_;rintro e w1 ⟨rfl,hb⟩;have HKEEP:=zH (((Below.cell hb (p:=⟨b,off+k,none⟩)) hbl.out).trans hc0);have HB2:=zH (aA (aE HB.out 1) hb);clear hb))
   all_goals
    go_wp2_with fail
    go_roundw
    case rel=>exact⟨k+1,by omega,by go_num,by rw[show k0+(k+1)=p+1 by rw[HP.out];omega];go_num,HB2⟩
    case measure=>simp[Go.RowKit.intOf];omega
  ·obtain rfl:k=n:=by omega
   go_wp2_with fail
   go_ret
   exact⟨rfl,HB.out⟩
theorem vE(base:Nat)(A:Option Addr)(n c:Nat)(ds:List ByteArray)(k0:Nat)(w:World)(hn:n=ds.length)(hl:n≤1048576)(hk:1≤k0)(hk2:k0≤35184372088832)(hO:aK w base (.slice A n c) ds):
  Calls Tryz.prog 36 #[.slice A n c,.int .i64 k0] w fun e w' =>e= .returned (.int .i64 ((k0+n:Nat):Int))∧aK w' base (.slice A n c) (iM k0 n)∧w.grownBy w' (Value.slice A n c).ownBlock:=by
 subst hn
 have HO:=zH hO
 rcases hO.2 with⟨hv,hz⟩|⟨g,cap,cur,hv,hb,hg,hnc,hcm,hcs,_⟩
 ·simp only[Value.slice.injEq] at hv
  obtain⟨rfl,_,rfl⟩:=hv
  obtain rfl:ds=[]:=List.eq_nil_of_length_eq_zero (by omega)
  clear hO hz
  go_enter Tryz.func36,Tryz.ntmps36
  go_wp2_with fail
  refine wp_loop_rounds 1 ?_
  rw[rounds_succ]
  go_wp2_with fail
  go_ret
  exact⟨by simp,HO.out,World.grownBy.refl w _⟩
 ·simp only[Value.slice.injEq] at hv
  obtain⟨rfl,_,rfl⟩:=hv
  have hgl:g<w.heap.size:=(Array.getElem?_eq_some_iff.1 hg).1
  clear hO hg hcs
  go_enter Tryz.func36,Tryz.ntmps36
  go_wp2_with fail
  go_loopw [1,5] (fun q i wr=>∃(k:Nat) (es:List ByteArray),k≤ds.length∧i= .int .i64 k∧q= .int .i64 ((k0+k:Nat):Int)∧Hid (es.length=ds.length)∧Hid (∀(i:Nat) (d:ByteArray),i<k→es[i]? =some d→d=rR (k0+i))∧
   Hid (wr.ownsRow base 9 1 (.slice (some ⟨g,0,none⟩) ds.length c) ds.length (es.map Value.string))∧Hid (w.grownBy wr (some g))) (fun _ i _=>ds.length-(Go.RowKit.intOf i).toNat)
  case atStart=>exact⟨0,ds,Nat.zero_le _,rfl,by simp,rfl,(fun i y h=>by omega),HO.out,World.grownBy.refl w _⟩
  case round=>
   obtain⟨k,es,hk',rfl,rfl,hlen,hso,HW,HG⟩:=hrel
   by_cases hlt:k<ds.length
   ·obtain⟨d,hd⟩:∃d,es[k]? =some d:=⟨_,List.getElem?_eq_getElem (by rw[hlen.out];exact hlt)⟩
    obtain⟨p,HP⟩:∃p:Nat,Hid (k0+k=p):=⟨_,rfl⟩
    have hp1:1≤p:=by rw[←HP.out];omega
    have hp2:p≤35184372088832+1048576:=by rw[←HP.out];omega
    rw[HP.out]
    have HM:=zH (fun W=>DP p (by omega) (by omega) W)
    have HD:=zH hd
    clear hd
    go_wp2_with fail
    refine(HM.out _).mono ?_
    rintro e w2 ⟨rfl,hb⟩
    have HG2:=zH (HG.out.trans (OE hb _))
    have HW3:Hid (w2.ownsRow base 9 1 (.slice (some ⟨g,0,none⟩) ds.length c) ds.length (es.map Value.string)):=World.ownsRow.kept HW.out (OE hb none) (Or.inr (by simp[Value.ownBlock]))
    have hc2:=HW3.out.cellAt k (by omega)
    have hf2:=HW3.out.frozenAt k
    rw[List.getElem?_map,HD.out,Option.map_some] at hc2
    clear hb
    go_wp2_with fail
    go_roundw
    case rel=>
     have hst:=(HW3.out.stored k (.string (rR p))).1
     rw[←List.map_set] at hst
     refine⟨k+1,es.set k (rR p),by omega,by go_num,by rw[show k0+(k+1)=p+1 by rw[←HP.out];omega];go_num,by unfold Hid;rw[List.length_set];exact hlen.out,?_,hst,gE HG2.out _ _⟩
     intro i y hi hy
     rw[List.getElem?_set] at hy
     by_cases e:k=i
     ·subst e
      rw[if_pos rfl,if_pos (by rw[hlen.out];exact hlt)] at hy
      cases hy
      rw[HP.out]
     ·rw[if_neg e] at hy
      exact hso.out i y (by omega) hy
    case measure=>simp[Go.RowKit.intOf];omega
   ·obtain rfl:k=ds.length:=by omega
    have HE:Hid (es=iM k0 ds.length):=by
     unfold Hid
     apply List.ext_getElem?
     intro i
     by_cases hi:i<ds.length
     ·obtain⟨d,hd⟩:∃d,es[i]? =some d:=⟨_,List.getElem?_eq_getElem (by rw[hlen.out];exact hi)⟩
      rw[hd,hso.out i d hi hd]
      unfold iM
      rw[List.getElem?_map,List.getElem?_range hi];rfl
     ·rw[List.getElem?_eq_none (by rw[hlen.out];omega),List.getElem?_eq_none (by rw[pA];omega)]
    rw[HE.out] at HW
    go_wp2_with fail
    go_ret
    refine⟨rfl,?_,HG.out⟩
    have:=HW.out
    unfold aK
    rw[pA]
    exact this
theorem LY(A:Option Addr)(n c:Nat)(xs:List ByteArray)(l:Int)(w:World)(hn:n=xs.length)(hc:n≤c)(hm:c≤maxLen)(hA:a7 w A xs)(hs:∀s∈xs,s.size≤maxLen)(hl0:0≤l)(hl1:l≤1048576):
  Calls Tryz.prog 33 #[.slice A n c,.int .i64 l] w fun e w' =>(∃q:Int,e= .returned (.int .i64 q)∧q≤l∧(0≤q→n≤1048576∧∀s∈xs,s.size≤1048576)∧-1≤q)∧w=w' :=by
 subst hn
 have hm' :xs.length≤9223372036854775807:=by unfold maxLen at hm;omega
 have HA:=zH hA
 have HS:=zH hs
 clear hA hs hc hm
 by_cases hl:l-(xs.length:Int)<0
 ·have hd:decide (l-(xs.length:Int)<0)=true:=decide_eq_true hl
  go_enter Tryz.func33,Tryz.ntmps33
  go_wp2_with fail
  go_ret
  exact⟨⟨-1,rfl,by omega,by omega,by omega⟩,rfl⟩
 have hd:decide (l-(xs.length:Int)<0)=false:=decide_eq_false hl
 go_enter Tryz.func33,Tryz.ntmps33
 go_wp2_with fail
 clear hd
 go_loop [1,5] (fun q i=>∃(k:Nat) (v:Int),k≤xs.length∧i= .int .i64 k∧q= .int .i64 v∧0≤v∧v≤l∧Hid (∀j s,j<k→xs[j]? =some s→s.size≤1048576)) (fun _ i=>xs.length-(Go.RowKit.intOf i).toNat)
 case atStart=>exact⟨0,_,Nat.zero_le _,rfl,rfl,by omega,by omega,fun j d h=>by omega⟩
 case round=>
  obtain⟨k,v,hk,rfl,rfl,hv0,hv1,HSO⟩:=hrel
  by_cases hlt:k<xs.length
  ·obtain⟨b,off,s,rfl,hc0,hx,_⟩:=HA.out.elem hlt
   have hg:s.size≤9223372036854775807:=by have:=HS.out s (mT hx);unfold maxLen at this;exact this
   by_cases hq:v-(s.size:Int)<0
   ·have hd:decide (v-(s.size:Int)<0)=true:=decide_eq_true hq
    go_wp2_with fail
    go_ret
    exact⟨⟨-1,rfl,by omega,by omega,by omega⟩,rfl⟩
   ·have hd:decide (v-(s.size:Int)<0)=false:=decide_eq_false hq
    have HSN:Hid (∀j s,j<k+1→xs[j]? =some s→s.size≤1048576):=by
     intro j d hj hdj
     by_cases e:j=k
     ·subst e
      rw[hx.out] at hdj;cases hdj;omega
     ·exact HSO.out j d (by omega) hdj
    go_wp2_with fail
    go_round
    case rel=>exact⟨k+1,_,by omega,by go_num,rfl,by omega,by omega,HSN⟩
    case measure=>simp[Go.RowKit.intOf];omega
  ·obtain rfl:k=xs.length:=by omega
   have HALL:Hid (∀s∈xs,s.size≤1048576):=fun d hd=>by
    obtain⟨j,hj⟩:=List.mem_iff_getElem?.1 hd
    exact HSO.out j d (List.getElem?_eq_some_iff.1 hj).1 hj
   go_wp2_with fail
   go_ret
   exact⟨⟨v,rfl,by omega,fun _=>⟨by omega,HALL.out⟩,by omega⟩,rfl⟩
theorem GJ(k:Int)(A:Option Addr)(n c:Nat)(xs:List ByteArray)(l:Int)(w:World)(hn:n=xs.length)(hc:n≤c)(hm:c≤maxLen)(hA:a7 w A xs)(hs:∀s∈xs,s.size≤maxLen)(hl0:0≤l)(hl1:l≤1048576):
  Calls Tryz.prog 73 #[.agg #[.int .i64 k,.slice A n c],.int .i64 l] w fun e w' =>(∃q:Int,e= .returned (.int .i64 q)∧q≤l∧(0≤q→n≤1048576∧∀s∈xs,s.size≤1048576)∧-1≤q)∧Below w.heap.size w w' :=by
 have hb:Below w.heap.size w (w.alloc (.cells #[.int .i64 k,.slice A n c] 54)):=(Below.refl _ _).alloc (Nat.le_refl _) _
 have HB:=zH hb
 have HC:=zH (LY A n c xs l _ hn hc hm (hA.below hb) hs hl0 hl1)
 clear hb hn hc hm hA hs hl0 hl1
 go_enter Tryz.func73,Tryz.ntmps73
 go_wp2_with fail
 refine HC.out.mono ?_
 rintro e w' ⟨⟨q,rfl,hq1,hq2,hq3⟩,rfl⟩
 have HQ:=zH hq2
 clear hq2
 by_cases hq:q<0
 ·have hd:decide (q<0)=true:=decide_eq_true hq
  go_wp2_with fail
  go_ret
  exact⟨⟨-1,rfl,by omega,by omega,by omega⟩,HB.out⟩
 ·have hd:decide (q<0)=false:=decide_eq_false hq
  go_wp2_with fail
  go_ret
  exact⟨⟨q,rfl,hq1,HQ.out,hq3⟩,HB.out⟩
structure QC (T:aL):Prop where
 txt:∀s∈T.now.op,s.size≤maxLen
 ops:∀x∈T.past,∀s∈x.op,s.size≤maxLen
theorem OI(A:Option Addr)(n c:Nat)(xs:List (St ByteArray))(l:Int)(w:World)(hn:n=xs.length)(hc:n≤c)(hm:c≤maxLen)(hA:b6 w A xs)(hs:∀x∈xs,∀s∈x.op,s.size≤maxLen)(hl0:0≤l)(hl1:l≤1048576):
  Calls Tryz.prog 74 #[.slice A n c,.int .i64 l] w fun e w' =>(∃q:Int,e= .returned (.int .i64 q)∧q≤l∧(0≤q→n≤1048576∧∀x∈xs,x.op.length≤1048576∧∀s∈x.op,s.size≤1048576)∧-1≤q)∧Below w.heap.size w w' :=by
 subst hn
 have hm' :xs.length≤9223372036854775807:=by unfold maxLen at hm;omega
 have HA:=zH hA
 have HS:=zH hs
 clear hA hs hc hm
 by_cases hl:l-(xs.length:Int)<0
 ·have hd:decide (l-(xs.length:Int)<0)=true:=decide_eq_true hl
  go_enter Tryz.func74,Tryz.ntmps74
  go_wp2_with fail
  go_ret
  exact⟨⟨-1,rfl,by omega,by omega,by omega⟩,Below.refl _ _⟩
 have hd:decide (l-(xs.length:Int)<0)=false:=decide_eq_false hl
 go_enter Tryz.func74,Tryz.ntmps74
 go_wp2_with fail
 clear hd
 go_loopw [1,5] (fun q i wr=>∃(k:Nat) (v:Int),k≤xs.length∧i= .int .i64 k∧q= .int .i64 v∧0≤v∧v≤l∧Hid (∀j x,j<k→xs[j]? =some x→x.op.length≤1048576∧∀s∈x.op,s.size≤1048576)∧Hid (Below w.heap.size w wr)) (fun _ i _=>xs.length-(Go.RowKit.intOf i).toNat)
 case atStart=>exact⟨0,_,Nat.zero_le _,rfl,rfl,by omega,by omega,(fun j d h=>by omega),Below.refl _ _⟩
 case round=>
  obtain⟨k,v,hk,rfl,rfl,hv0,hv1,HSO,HB⟩:=hrel
  by_cases hlt:k<xs.length
  ·obtain⟨b,off,Ai,ci,x,rfl,he0,he1,hle,hmi,hx,hAi,hbl⟩:=(HA.out.below HB.out).elem hlt
   have HC:=zH (GJ x.known Ai x.op.length ci x.op v wr rfl hle hmi hAi.out (HS.out x (List.mem_of_getElem? hx.out)) hv0 (by omega))
   clear hmi
   go_wp2_with fail
   refine HC.out.mono ?_
   rintro e w2 ⟨⟨q,rfl,hq1,hq2,hq3⟩,hb⟩
   have HB2:=zH (aA HB.out hb)
   have HQ:=zH hq2
   clear hb hq2 he0 he1
   by_cases hq:q<0
   ·have hd:decide (q<0)=true:=decide_eq_true hq
    go_wp2_with fail
    go_ret
    exact⟨⟨-1,rfl,by omega,by omega,by omega⟩,HB2.out⟩
   ·have hd:decide (q<0)=false:=decide_eq_false hq
    have HSN:Hid (∀j x,j<k+1→xs[j]? =some x→x.op.length≤1048576∧∀s∈x.op,s.size≤1048576):=by
     intro j d hj hdj
     by_cases e:j=k
     ·subst e
      rw[hx.out] at hdj;cases hdj;exact HQ.out (by omega)
     ·exact HSO.out j d (by omega) hdj
    go_wp2_with fail
    go_roundw
    case rel=>exact⟨k+1,q,by omega,by go_num,rfl,by omega,by omega,HSN,HB2⟩
    case measure=>simp[Go.RowKit.intOf];omega
  ·obtain rfl:k=xs.length:=by omega
   have HALL:Hid (∀x∈xs,x.op.length≤1048576∧∀s∈x.op,s.size≤1048576):=fun d hd=>by
    obtain⟨j,hj⟩:=List.mem_iff_getElem?.1 hd
    exact HSO.out j d (List.getElem?_eq_some_iff.1 hj).1 hj
   go_wp2_with fail
   go_ret
   exact⟨⟨v,rfl,by omega,fun _=>⟨by omega,HALL.out⟩,by omega⟩,HB.out⟩
theorem UE(T:aL)(A B:Option Addr)(n c m d:Nat)(l:Int)(w:World)(hT:bN w T A n c B m d)(hs:QC T)(hl0:0≤l)(hl1:l≤1048576):
  Calls Tryz.prog 28 #[.agg #[.int .i64 T.things,.int .i64 T.now.known,.slice A n c,.slice B m d],.int .i64 l] w fun e w' =>(∃q:Int,e= .returned (.int .i64 q)∧q≤l∧(0≤q→cD T)∧-1≤q)∧Below w.heap.size w w' :=by
 have hb:Below w.heap.size w (w.alloc (.cells #[.int .i64 T.things,.int .i64 T.now.known,.slice A n c,.slice B m d] 57)):=(Below.refl _ _).alloc (Nat.le_refl _) _
 have HX:Hid (aD (w.alloc (.cells #[.int .i64 T.things,.int .i64 T.now.known,.slice A n c,.slice B m d] 57)) w.heap.size 57 [.int .i64 T.things,.int .i64 T.now.known,.slice A n c,.slice B m d]):=aD.new w _ _
 have HB:=zH hb
 have HC:=zH (GJ T.now.known A n c T.now.op l _ hT.hn hT.hc hT.hm (hT.hA.below hb) hs.txt hl0 hl1)
 have HC2:Hid (∀(W:World) (v:Int),Below w.heap.size w W→0≤v→v≤1048576→Calls Tryz.prog 74 #[.slice B m d,.int .i64 v] W fun e w' =>(∃q:Int,e= .returned (.int .i64 q)∧q≤v∧(0≤q→m≤1048576∧∀x∈T.past,x.op.length≤1048576∧∀s∈x.op,s.size≤1048576)∧-1≤q)∧Below W.heap.size W w'):=
  fun W v h h0 h1=>OI B m d T.past v W hT.pn hT.pc hT.pm (hT.hB.below h) hs.ops h0 h1
 have HFIN:Hid (n≤1048576∧(∀s∈T.now.op,s.size≤1048576)→m≤1048576∧(∀x∈T.past,x.op.length≤1048576∧∀s∈x.op,s.size≤1048576)→cD T):=fun h1 h2=>⟨by rw[←hT.hn];exact h1.1,by rw[←hT.pn];exact h2.1,h1.2,h2.2⟩
 clear hb hT hs
 go_enter Tryz.func28,Tryz.ntmps28
 go_wp2_with fail
 refine HC.out.mono ?_
 rintro e w1 ⟨⟨q,rfl,hq1,hq2,hq3⟩,hb⟩
 have HQ:=zH hq2
 have HB1:=zH (aA HB.out hb)
 have HX1:=zH (HX.out.below hb)
 clear hq2 hb
 by_cases hq:q<0
 ·have hd:decide (q<0)=true:=decide_eq_true hq
  go_wp2_with fail
  go_ret
  exact⟨⟨-1,rfl,by omega,by omega,by omega⟩,HB1.out⟩
 have hd:decide (q<0)=false:=decide_eq_false hq
 have hc3:=HX1.out.cell (i:=3) (v:= .slice B m d) rfl
 go_wp2_with fail
 refine(HC2.out _ q HB1.out (by omega) (by omega)).mono ?_
 rintro e w2 ⟨⟨q2,rfl,hr1,hr2,hr3⟩,hb⟩
 have HQ2:=zH hr2
 have HB2:=zH (aA HB1.out hb)
 clear hr2 hb hc3 hd
 by_cases hq' :q2<0
 ·have hd:decide (q2<0)=true:=decide_eq_true hq'
  go_wp2_with fail
  go_ret
  exact⟨⟨-1,rfl,by omega,by omega,by omega⟩,HB2.out⟩
 have hd:decide (q2<0)=false:=decide_eq_false hq'
 go_wp2_with fail
 go_ret
 exact⟨⟨q2,rfl,by omega,fun h=>HFIN.out (HQ.out (by omega)) (HQ2.out h),hr3⟩,HB2.out⟩
theorem F4(k:Int)(A:Option Addr)(n c:Nat)(xs:List ByteArray)(w:World)(hn:n=xs.length)(hl:n≤1048576)(hA:a7 w A xs):
  Calls Tryz.prog 75 #[.agg #[.int .i64 k,.slice A n c]] w fun e w' =>∃v,e= .returned (.agg #[.int .i64 k,v])∧aK w' w.heap.size v xs∧Below w.heap.size w w' :=by
 have HRES:Hid (aD (((w.alloc (.cells #[.int .i64 k,.slice A n c] 54)).alloc (.cells #[.int .i64 0,.slice none 0 0] 30)).alloc (.cells #[.int .i64 k,.slice none 0 0] 30)) (w.heap.size+1) 30 [.int .i64 0,.slice none 0 0]):=by
  have:=aD.new (w.alloc (.cells #[.int .i64 k,.slice A n c] 54)) 30 [.int .i64 0,.slice none 0 0]
  rw[World.size_alloc] at this
  exact this.alloc _
 have HOUT:Hid (aD (((w.alloc (.cells #[.int .i64 k,.slice A n c] 54)).alloc (.cells #[.int .i64 0,.slice none 0 0] 30)).alloc (.cells #[.int .i64 k,.slice none 0 0] 30)) (w.heap.size+1+1) 30 [.int .i64 k,.slice none 0 0]):=by
  have:=aD.new ((w.alloc (.cells #[.int .i64 k,.slice A n c] 54)).alloc (.cells #[.int .i64 0,.slice none 0 0] 30)) 30 [.int .i64 k,.slice none 0 0]
  rw[World.size_alloc,World.size_alloc] at this
  exact this
 have hb:Below w.heap.size w (((w.alloc (.cells #[.int .i64 k,.slice A n c] 54)).alloc (.cells #[.int .i64 0,.slice none 0 0] 30)).alloc (.cells #[.int .i64 k,.slice none 0 0] 30)):=
  (((Below.refl _ _).alloc (Nat.le_refl _) _).alloc (by rw[World.size_alloc];omega) _).alloc (by rw[World.size_alloc,World.size_alloc];omega) _
 have HB:=zH hb
 have HC:=zH (LZ A n c xs _ hn hl (hA.below hb))
 clear hb hn hl hA
 go_enter Tryz.func75,Tryz.ntmps75
 go_wp2_with fail
 refine HC.out.mono ?_
 rintro e w1 ⟨v,rfl,ho,hb⟩
 have HRES1:=zH (HRES.out.below hb)
 have HOUT1:=zH (HOUT.out.below hb)
 have hbase:w.heap.size≤(((w.alloc (.cells #[.int .i64 k,.slice A n c] 54)).alloc (.cells #[.int .i64 0,.slice none 0 0] 30)).alloc (.cells #[.int .i64 k,.slice none 0 0] 30)).heap.size:=HB.out.size
 have HO1:=zH (ho.base hbase)
 replace HB:=zH (aA HB.out hb)
 obtain⟨A1,c1,rfl,_,_,_,_⟩:=ho.form
 clear ho hb HC HRES HOUT hbase
 have hc0:=HOUT1.out.cell (i:=0) (v:= .int .i64 k) rfl
 have hc1:=HOUT1.out.cell (i:=1) (v:= .slice none 0 0) rfl
 have hf1:=HOUT1.out.frozen 1
 have HOUT2:=zH (HOUT1.out.set 1 (.slice A1 xs.length c1))
 have hd0:=HOUT2.out.cell (i:=0) (v:= .int .i64 k) rfl
 have hd1:=HOUT2.out.cell (i:=1) (v:= .slice A1 xs.length c1) rfl
 have HRES2:=zH (HRES1.out.other (a:=w.heap.size+1+1) (i:=1) (by omega) (.slice A1 xs.length c1))
 have HO2:=zH (HO1.out.setBox (i:=1) (u:= .slice A1 xs.length c1) HOUT1.out (by decide))
 obtain⟨⟨ha0,ha1,ha2,ha3⟩,⟨ha4,ha5⟩,HRES3⟩:=HRES2.out.store2 (.int .i64 k) (.slice A1 xs.length c1)
 have HO3:=zH ((HO2.out.setBox (i:=0) (u:= .int .i64 k) HRES2.out (by decide)).setBox (i:=1) (u:= .slice A1 xs.length c1) (HRES2.out.set 0 _) (by decide))
 have HB3:=zH (fN (HB.out.setCell (p:=⟨w.heap.size+1+1,1,none⟩) (by show w.heap.size≤w.heap.size+1+1;omega) (.slice A1 xs.length c1)) (show w.heap.size≤w.heap.size+1 by omega) (.int .i64 k) (.slice A1 xs.length c1))
 go_wp2_with fail
 refine bodyPost_ret_by (uY (b:=w.heap.size+1) rfl rfl HRES3) rfl ⟨_,rfl,HO3.out,HB3.out⟩
def oZ(vs:List (Int×Value)):Nat→Value:=fun j=>if j<vs.length*2 then((bQ vs)[j]?).getD (.int .i64 0) else(if j%2=0 then .int .i64 0 else .slice none 0 0)
theorem O3(m:Nat):∀i,i<(madeCells #[Value.int .i64 0,.slice none 0 0] (m*2)).size→(madeCells #[Value.int .i64 0,.slice none 0 0] (m*2))[i]? =some (if i%2=0 then .int .i64 0 else .slice none 0 0):=by
 intro i hi
 rw[size_madeCells] at hi
 have h2:i%2=0∨i%2=1:=by omega
 unfold madeCells
 rw[Array.getElem?_map,Array.getElem?_range,if_pos hi]
 rcases h2 with h|h<;>simp[h]
theorem NJ(w:World)(n:Nat):(w.alloc (.cells (madeCells #[Value.int .i64 0,.slice none 0 0] (n*2)) 30)).rowIs w.heap.size 30 (n*2) (oZ []):=by
 have:=World.rowIs_alloc w (madeCells #[Value.int .i64 0,.slice none 0 0] (n*2)) 30 (oZ []) (fun i hi=>by rw[O3 _ i hi];unfold oZ;rw[if_neg (show¬i<([]:List (Int×Value)).length*2 by simp)])
 rwa [size_madeCells] at this
theorem KJ{w:World}{g n:Nat}{vs:List (Int×Value)}{a:Int}{v:Value}(h:w.rowIs g 30 (n*2) (oZ vs)):
  ((w.setCell ⟨g,vs.length*2,none⟩ (.int .i64 a)).setCell ⟨g,vs.length*2+1,none⟩ v).rowIs g 30 (n*2) (oZ (vs++[(a,v)])):=by
 have hg:(vs++[(a,v)])[vs.length]? =some (a,v):=by rw[List.getElem?_append_right (Nat.le_refl _),Nat.sub_self];rfl
 obtain⟨e1,e2⟩:=gO _ _ _ hg
 refine((h.set (vs.length*2) _).set (vs.length*2+1) _).congr fun j hj=> ?_
 unfold oZ
 rw[List.length_append,List.length_singleton]
 by_cases e:j=vs.length*2+1
 ·subst e
  rw[if_pos rfl,if_pos (show vs.length*2+1<(vs.length+1)*2 by omega),e2];rfl
 ·rw[if_neg e]
  by_cases e' :j=vs.length*2
  ·subst e'
   rw[if_pos rfl,if_pos (show vs.length*2<(vs.length+1)*2 by omega),e1];rfl
  ·rw[if_neg e']
   by_cases h1:j<vs.length*2
   ·rw[if_pos h1,if_pos (show j<(vs.length+1)*2 by omega),qH,List.getElem?_append_left (by rw[nO];exact h1)]
   ·rw[if_neg h1,if_neg (show¬j<(vs.length+1)*2 by omega)]
theorem E8{w:World}{base g:Nat}{vs:List (Int×Value)}(h:w.rowIs g 30 (vs.length*2) (oZ vs))(hb:base≤g)(hm:vs.length≤maxLen):w.ownsRow base 30 2 (.slice (some ⟨g,0,none⟩) vs.length vs.length) vs.length (bQ vs):=by
 obtain⟨c,hg,hn,hc⟩:=h
 refine⟨nO vs,.inr ⟨g,vs.length,c,rfl,hb,hg,Nat.le_refl _,hm,by omega,?_⟩⟩
 apply List.ext_getElem?
 intro i
 rw[List.getElem?_take]
 by_cases hi:i<vs.length*2
 ·rw[if_pos (by omega),Array.getElem?_toList,hc i hi]
  unfold oZ
  rw[if_pos hi,List.getElem?_eq_getElem (by rw[nO];exact hi)];rfl
 ·rw[if_neg (by omega),List.getElem?_eq_none (by rw[nO];omega)]
theorem KP(n:Nat)(hn:n≤1048576)(W:World):(Instr.makeSlice 31 (.int .i64 (n:Int)) (.int .i64 (n:Int))).run Tryz.prog W= .ok (.slice (some ⟨W.heap.size,0,none⟩) n n) (W.alloc (.cells (madeCells #[Value.int .i64 0,.slice none 0 0] (n*2)) 30)):=by
 obtain⟨i0,hi0,hz0,hz1,hz2⟩:=info_parts tZ
 have h:=run_make (P:=Tryz.prog) W 31 30 i0 _ Tryz.underlying31 hi0 hz0 .i64 .i64 (n:Int) (n:Int) (by omega) (Int.le_refl _) (by rw[hz2];omega) (by omega)
 rw[hz1,Int.toNat_natCast] at h
 exact h
theorem MT(A:Option Addr)(n c:Nat)(xs:List (St ByteArray))(w:World)(hn:n=xs.length)(hl:n≤1048576)(hA:b6 w A xs)(hs:∀x∈xs,x.op.length≤1048576):
  Calls Tryz.prog 76 #[.slice A n c] w fun e w' =>∃v vs,e= .returned v∧aY 30 w' w.heap.size v vs xs∧mS w' (w.heap.size+1) vs xs∧v.ownBlock=some w.heap.size∧Below w.heap.size w w' :=by
 subst hn
 have HA:=zH hA
 have HS:=zH hs
 clear hA hs
 have hmk:=fun W=>KP xs.length hl W
 go_enter Tryz.func76,Tryz.ntmps76
 go_wp2_with fail
 clear hmk
 go_loopw [4] (fun i wr=>∃vs:List (Int×Value),vs.length≤xs.length∧i= .int .i64 vs.length∧Hid (wr.rowIs w.heap.size 30 (xs.length*2) (oZ vs))∧Hid (mS wr (w.heap.size+1) vs xs)∧Hid (Below w.heap.size w wr)) (fun i _=>xs.length-(Go.RowKit.intOf i).toNat)
 case atStart=>exact⟨[],Nat.zero_le _,rfl,NJ _ _,⟨fun i x h=>by simp at h,List.Pairwise.nil⟩,(Below.refl _ _).alloc (Nat.le_refl _) _⟩
 case round=>
  obtain⟨vs,hk,rfl,HW,HSN,HB⟩:=hrel
  obtain⟨k,hkk⟩:∃k,vs.length=k:=⟨_,rfl⟩
  rw[hkk] at hk⊢
  by_cases hlt:k<xs.length
  ·obtain⟨b,off,Ai,ci,x,rfl,he0,he1,hle,_,hx,hAi,hbl⟩:=(HA.out.below HB.out).elem hlt
   have HC:=zH (F4 x.known Ai x.op.length ci x.op wr rfl (HS.out x (List.mem_of_getElem? hx.out)) hAi.out)
   have HKK:=zH hkk
   have hgw:=HW.out.lt
   clear hkk
   go_wp2_with fail
   refine HC.out.mono ?_
   rintro e w1 ⟨v,rfl,ho,hb⟩
   have HB2:=zH (aA HB.out hb)
   have HW2:=zH (HW.out.of_block (hb.block _ HW.out.lt))
   have hd1:=HW2.out.cell (i:=k*2) (by omega)
   have hf1:=HW2.out.frozen (k*2)
   have hd2:=HW2.out.cell (i:=k*2+1) (by omega)
   have hf2:=HW2.out.frozen (k*2+1)
   unfold oZ at hd1 hd2
   rw[HKK.out,if_neg (show¬k*2<k*2 by omega),if_pos (show k*2%2=0 by omega)] at hd1
   rw[HKK.out,if_neg (show¬k*2+1<k*2 by omega),if_neg (show¬(k*2+1)%2=0 by omega)] at hd2
   obtain⟨A1,c1,rfl,_,_,_,_⟩:=ho.form
   have HF:Hid (mS ((w1.setCell ⟨w.heap.size,k*2,none⟩ (.int .i64 x.known)).setCell ⟨w.heap.size,k*2+1,none⟩ (.slice A1 x.op.length c1)) (w.heap.size+1) (vs++[(x.known,.slice A1 x.op.length c1)]) xs):=by
    have hk1:aX (w.heap.size+1) w1 ((w1.setCell ⟨w.heap.size,k*2,none⟩ (.int .i64 x.known)).setCell ⟨w.heap.size,k*2+1,none⟩ (.slice A1 x.op.length c1)):=(aX.set (Nat.lt_succ_self _)).trans (aX.set (Nat.lt_succ_self _)) (Nat.le_refl _)
    refine HSN.out.next (by rw[HKK.out];exact hk) (by rw[HKK.out];exact hx.out) ((aX.of_below hb).trans hk1 (Nat.le_refl _)) ((ho.base (by omega)).keep hk1) fun kk e=>(ho.lt e).1
   have HR:Hid (((w1.setCell ⟨w.heap.size,k*2,none⟩ (.int .i64 x.known)).setCell ⟨w.heap.size,k*2+1,none⟩ (.slice A1 x.op.length c1)).rowIs w.heap.size 30 (xs.length*2) (oZ (vs++[(x.known,.slice A1 x.op.length c1)]))):=by
    have:=KJ (a:=x.known) (v:= .slice A1 x.op.length c1) HW2.out
    rw[HKK.out] at this
    exact this
   have HBF:=zH ((HB2.out.setCell (p:=⟨w.heap.size,k*2,none⟩) (Nat.le_refl _) (.int .i64 x.known)).setCell (p:=⟨w.heap.size,k*2+1,none⟩) (Nat.le_refl _) (.slice A1 x.op.length c1))
   clear ho hb he0 he1 hgw
   go_wp2_with fail
   go_roundw
   case rel=>exact⟨vs++[(x.known,.slice A1 x.op.length c1)],by rw[List.length_append,List.length_singleton,HKK.out];omega,by rw[List.length_append,List.length_singleton,HKK.out];go_num,HR,HF,HBF⟩
   case measure=>simp[Go.RowKit.intOf];omega
  ·have hkx:k=xs.length:=by omega
   subst hkx
   have HKK:=zH hkk
   have HR:Hid (aY 30 wr w.heap.size (.slice (some ⟨w.heap.size,0,none⟩) xs.length xs.length) vs xs):=by
    have hrow:=E8 (base:=w.heap.size) (vs:=vs) (by rw[hkk];exact HW.out) (Nat.le_refl _) (by unfold maxLen;omega)
    rw[hkk] at hrow
    refine⟨by rw[hkk];exact hrow,hkk,fun i x hx=> ?_⟩
    obtain⟨v,h1,h2⟩:=HSN.out.1 i x (by rw[hkk];exact(List.getElem?_eq_some_iff.1 hx).1) hx
    exact⟨v,h1,h2.base (Nat.le_succ _),eC h2 hrow (by decide)⟩
   clear hkk
   go_wp2_with fail
   go_ret
   exact⟨_,vs,rfl,HR.out,HSN.out,rfl,HB.out⟩
end Go.Proofs.YtfhjcacfchkdpaaGreatDoor
