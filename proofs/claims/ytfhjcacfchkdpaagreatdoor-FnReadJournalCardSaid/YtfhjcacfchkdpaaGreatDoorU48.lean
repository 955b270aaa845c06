/-
  What the proofs of this seat's statements share (Row, MathW, DdO, JnT, JnR, JnQ, DdM, DrwK, RunA, RunI).
-/
import Derived.Below
import Derived.Laws.OwnMore
import Derived.Maps.AppendAt
import Derived.WalkSmall
import Derived.Deep.Draws
import Derived.Deep.RegionHeld3
import Derived.Lib.IndexLaws
import Derived.Deep.QuietTactic
import Derived.Test.YtfhjcacfchkdpaaGreatDoorU43
set_option maxRecDepth 100000
set_option maxHeartbeats 32000000
namespace Go.Proofs.YtfhjcacfchkdpaaGreatDoor
open Go.RowKit
theorem sN{B:Nat}{a w w' :World}{g:Nat}(h:Below B a w)(hg:w.grownBy w' (some g))(hB:B≤w.heap.size)(hr:B≤g):Below B a w' :=
 h.grown hg hB (fun k e=>by cases e;exact hr)
theorem QE:∀c∈i1,kX c=true:=by decide
theorem SU:∀c∈lH,kX c=true:=by decide
theorem RL:∀c∈uJ,kX c=true:=by decide
theorem QG(d:Dd):∀c∈eV d,kX c=true:=by
 intro c hc
 unfold eV at hc
 split at hc
 ·rename_i h
  rcases List.mem_append.1 hc with hc|hc
  ·exact QE c hc
  ·have:=h.2
   unfold dC at this
   rw[Bool.and_eq_true] at this
   exact List.all_eq_true.1 this.2 c hc
 split at hc
 ·rename_i h
  rcases List.mem_append.1 hc with hc|hc
  ·exact SU c hc
  ·have:=h.2
   unfold dC at this
   rw[Bool.and_eq_true] at this
   exact List.all_eq_true.1 this.2 c hc
 split at hc
 ·exact RL c hc
 ·cases hc
theorem O6{d:Dd}:(10:UInt8)∉eV d:=fun h=>by have:=QG d 10 h;revert this;decide
def pQ(ds:List Dd):List UInt8:=if ds.any (fun d=>(eV d).isEmpty) then[] else ds.flatMap fun d=>eV d++[10]
def nD(s:List UInt8)(k:Nat)(p:List Dd×Nat×Bool):List Dd×Nat×Bool:=
 if p.2.2=true then p
 else if s[k]? =some 10 then
  match oY ((s.take k).drop p.2.1) with
  |some d=>(p.1++[d],k+1,false)
  |none=>(p.1,p.2.1,true)
 else p
def k8(s:List UInt8):Nat→List Dd×Nat×Bool
 |0=>([],0,false)
 |k+1=>nD s k (k8 s k)
def AG(s:List UInt8):List Dd×Nat:=((k8 s s.length).1,(k8 s s.length).2.1)
theorem K2{s:List UInt8}{k:Nat}{p:List Dd×Nat×Bool}(h:p.2.2=true):nD s k p=p:=by unfold nD;rw[if_pos h]
def dF(ds:List Dd):List UInt8:=ds.flatMap fun d=>eV d++[10]
theorem KM(ds:List Dd)(d:Dd):dF (ds++[d])=dF ds++(eV d++[10]):=by unfold dF;simp
theorem D7{ds:List Dd}(h:∀d∈ds,eV d≠[]):pQ ds=dF ds:=by
 unfold pQ
 rw[if_neg]
 ·rfl
 ·intro hc
  obtain⟨d,hd,he⟩:=List.any_eq_true.1 hc
  exact h d hd (List.isEmpty_iff.1 he)
theorem uI(s:List UInt8)(a:Nat)(p:List Dd×Nat×Bool)(ha:k8 s a=p):∀m,(∀i,a≤i→i<a+m→s[i]?≠some 10)→k8 s (a+m)=p
 |0,_=>ha
 |m+1,h=>by
  have ih:=uI s a p ha m fun i h1 h2=>h i h1 (by omega)
  show nD s (a+m) (k8 s (a+m))=p
  rw[ih]
  unfold nD
  split
  ·rfl
  ·rw[if_neg (h (a+m) (by omega) (by omega))]
theorem yP(es:List Dd):∀(fs ds:List Dd),(∀d∈ds,eV d≠[])→k8 (dF fs++dF (ds++es)) (dF fs).length=(fs,(dF fs).length,false)→k8 (dF fs++dF (ds++es)) (dF (fs++ds)).length=(fs++ds,(dF (fs++ds)).length,false)
 |fs,[],_,h=>by rw[List.append_nil];exact h
 |fs,d::ds,hall,h=>by
  have hd:=hall d (by simp)
  have e:dF fs++dF (d::ds++es)=dF (fs++[d])++dF (ds++es):=by unfold dF;simp
  have hl:(dF (fs++[d])).length=(dF fs).length+(eV d).length+1:=by rw[KM];simp;omega
  have key:k8 (dF (fs++[d])++dF (ds++es)) (dF (fs++[d])).length=(fs++[d],(dF (fs++[d])).length,false):=by
   rw[e] at h
   generalize hs:dF (fs++[d])++dF (ds++es)=s at h⊢
   have hs2:s=dF fs++(eV d++(10::dF (ds++es))):=by rw[←hs];unfold dF;simp
   have h1:=uI s _ _ h (eV d).length fun i h1 h2 hn=>by
    rw[hs2,List.getElem?_append_right (by omega),List.getElem?_append_left (by omega)] at hn
    exact O6 (d:=d) (List.mem_of_getElem? hn)
   rw[hl]
   show nD s _ (k8 s _)=_
   rw[h1]
   unfold nD
   rw[if_neg (by simp),if_pos (by rw[hs2,List.getElem?_append_right (by omega),List.getElem?_append_right (by omega)];simp)]
   have h3:(s.take ((dF fs).length+(eV d).length)).drop (dF fs).length=eV d:=by
    rw[hs2,←List.append_assoc,←List.length_append,List.take_left,List.drop_left]
   rw[h3,DS hd]
  rw[e]
  have ih:=yP es (fs++[d]) ds (fun x hx=>hall x (by simp[hx])) key
  rw[show fs++d::ds=(fs++[d])++ds by simp]
  exact ih
theorem U0{ds:List Dd}(h:pQ ds≠[]):AG (pQ ds)=(ds,(pQ ds).length):=by
 have hall:∀d∈ds,eV d≠[]:=fun d hd he=>by
  unfold pQ at h
  rw[if_pos (List.any_eq_true.2 ⟨d,hd,by rw[he];rfl⟩)] at h
  exact h rfl
 rw[D7 hall]
 have:=yP [] [] ds hall rfl
 rw[List.append_nil,show dF []=[] from rfl,List.nil_append,List.nil_append] at this
 unfold AG
 rw[this]
theorem KT{ds:List bK}{i:Nat}{d:bK}(h:Hid (ds[i]? =some d)):ds.take (i+1)=ds.take i++[d]:=by
 obtain⟨hlt,he⟩:=List.getElem?_eq_some_iff.1 h.out
 rw[List.take_succ_eq_append_getElem hlt,he]
def p9(d:bK):Dd:=⟨d.1,bL d.2⟩
def VH(d:Dd):bK:=(d.kind,cJ d.text)
theorem YJ(ds:List bK):(ds.map p9).map VH=ds:=by
 rw[List.map_map]
 have:VH∘p9=id:=by funext d;rfl
 rw[this,List.map_id]
def xW(s:ByteArray):List bK×Nat:=((AG (bL s)).1.map VH,(AG (bL s)).2)
theorem LH{s:ByteArray}{ds:List bK}{r:Nat}{b:Bool}(h:k8 (bL s) s.size=(ds.map p9,r,b)):xW s=(ds,r):=by
 unfold xW AG
 rw[gF,h]
 simp only
 rw[YJ]
theorem DF{S:List UInt8}{k:Nat}{p:List Dd×Nat×Bool}(h:k8 S k=p)(hp:p.2.2=true):∀m,k8 S (k+m)=p
 |0=>h
 |m+1=>by
  show nD S (k+m) (k8 S (k+m))=p
  rw[DF h hp m,K2 hp]
theorem GV{s:ByteArray}{ds:List bK}{r k:Nat}(h:k8 (bL s) k=(ds.map p9,r,true))(hk:k≤s.size):xW s=(ds,r):=by
 have:=DF h rfl (s.size-k)
 rw[show k+(s.size-k)=s.size by omega] at this
 exact LH this
theorem W9(x:ByteArray):(fW x=true∧oY (bL x)=some (p9 (dZ x)))∨(fW x=false∧oY (bL x)=none):=by
 unfold fW dZ jN
 cases oY (bL x) with
 |none=>exact .inr ⟨rfl,rfl⟩
 |some d=>exact .inl ⟨rfl,rfl⟩
theorem ND{s:ByteArray}{ds:List bK}{r k:Nat}(h:k8 (bL s) k=(ds.map p9,r,false))(hc:(bL s)[k]? =some 10):
  (fW (s.extract r k)=true→k8 (bL s) (k+1)=((ds++[dZ (s.extract r k)]).map p9,k+1,false))∧(fW (s.extract r k)=false→k8 (bL s) (k+1)=(ds.map p9,r,true)):=by
 have e:k8 (bL s) (k+1)=nD (bL s) k (ds.map p9,r,false):=by rw[←h];rfl
 have hx:=W9 (s.extract r k)
 rw[j7] at hx
 constructor
 ·intro ho
  rcases hx with⟨_,h2⟩|⟨h1,_⟩
  ·rw[e]
   unfold nD
   rw[if_neg (by simp),if_pos hc]
   simp only
   rw[h2]
   simp only
   rw[List.map_append];rfl
  ·rw[ho] at h1;cases h1
 ·intro ho
  rcases hx with⟨h1,_⟩|⟨_,h2⟩
  ·rw[ho] at h1;cases h1
  ·rw[e]
   unfold nD
   rw[if_neg (by simp),if_pos hc]
   simp only
   rw[h2]
theorem OG{s:ByteArray}{ds:List bK}{r k:Nat}(h:k8 (bL s) k=(ds.map p9,r,false))(hc:(bL s)[k]?≠some 10):k8 (bL s) (k+1)=(ds.map p9,r,false):=by
 have e:k8 (bL s) (k+1)=nD (bL s) k (ds.map p9,r,false):=by rw[←h];rfl
 rw[e]
 unfold nD
 rw[if_neg (by simp),if_neg hc]
theorem PL{s:ByteArray}{ds:List bK}{r:Nat}(h:k8 (bL s) r=(ds.map p9,r,false))(hr:r≤s.size)(hn:∀k:Nat,(bL (s.extract r s.size))[k]?≠some 10):xW s=(ds,r):=by
 have:=uI (bL s) r _ h (s.size-r) fun i h1 h2 e=>hn (i-r) (by
  rw[j7,List.getElem?_drop,show r+(i-r)=i by omega,List.getElem?_take_of_lt (by omega),e])
 rw[show r+(s.size-r)=s.size by omega] at this
 exact LH this
theorem R2{s:ByteArray}{ds:List bK}{r i:Nat}(h:k8 (bL s) r=(ds.map p9,r,false))(hr:r≤s.size)(hi:(bL (s.extract r s.size))[i]? =some 10∧∀k:Nat,k<i→(bL (s.extract r s.size))[k]?≠some 10):
  r+i<s.size∧k8 (bL s) (r+i)=(ds.map p9,r,false)∧(bL s)[r+i]? =some 10∧(s.extract r s.size).extract 0 i=s.extract r (r+i):=by
 have hlt:i<(bL (s.extract r s.size)).length:=(List.getElem?_eq_some_iff.1 hi.1).1
 rw[gF,k5 (Nat.le_refl _)] at hlt
 have hri:r+i<s.size:=by omega
 have hget:∀j,r+j<s.size→(bL (s.extract r s.size))[j]? =(bL s)[r+j]? :=fun j hj=>by
  rw[j7,List.getElem?_drop,List.getElem?_take_of_lt (by omega)]
 refine⟨hri,uI (bL s) r _ h i fun j h1 h2 e=>hi.2 (j-r) (by omega) (by rw[hget _ (by omega),show r+(j-r)=j by omega,e]),by rw[←hget i hri];exact hi.1,?_⟩
 apply gI
 rw[j7,j7,j7,List.drop_zero,List.take_of_length_le (l:=bL s) (by rw[gF];exact Nat.le_refl _),List.drop_take,show r+i-r=i by omega]
theorem VN(s:ByteArray)(w:World)(hs:s.size≤1048576):
  Calls Tryz.prog 9 #[.string s] w fun e w' =>∃v,e= .returned (.tuple #[v,.int .i64 ((xW s).2:Nat)])∧bU w' w.heap.size v (xW s).1∧Below w.heap.size w w' :=by
 obtain⟨R,HR⟩:∃R,Hid (xW s=R):=⟨_,rfl⟩
 rw[HR.out]
 go_enter Tryz.func9,Tryz.ntmps9
 go_wp2_with fail
 go_loopw [4,5] (fun o i wr=>∃(r:Nat) (ds:List bK),r≤s.size∧i= .int .i64 r∧ds.length≤r∧Hid (bU wr w.heap.size o ds)∧Hid (k8 (bL s) r=(ds.map p9,r,false))∧Hid (Below w.heap.size w wr)) (fun _ i _=>s.size+1-(Go.RowKit.intOf i).toNat)
 case atStart=>exact⟨0,[],Nat.zero_le _,rfl,Nat.zero_le _,bU.nil _ _,rfl,Below.refl _ _⟩
 case round=>
  obtain⟨r,ds,hr,rfl,hdl,HO,HJ,HB⟩:=hrel
  have hd1:(0:Int)≤(r:Int):=by omega
  have hd2:(r:Int)≤(s.size:Int):=by omega
  have HES:=zH (k5 (s:=s) (a:=r) (Nat.le_refl s.size))
  obtain⟨x,hx⟩:∃x,s.extract r s.size=x:=⟨_,rfl⟩
  rcases G3 (bL (s.extract r s.size)) 10 with hno|⟨i,hyes⟩
  ·have HE:=zH (PL HJ.out hr hno)
   rw[HR.out] at HE
   have HNO:=zH hno
   rw[hx] at HES HNO
   have hxs:x.size≤1048576:=by rw[HES.out];omega
   clear hno
   go_wp2_with (first
    |(go_at_call 43;refine(FN x 10 HNO _).mono ?_;rintro e w' ⟨rfl,n,rfl⟩;clear hx)
    |(go_at_call 44;refine(wG x _ hxs).mono ?_;rintro e w2 ⟨rfl,hb⟩;have HO2:=zH ((HO.out.drewN _).below hb);have HB2:=zH (aA (aE HB.out _) hb);clear hb))
   go_ret2
   exact⟨_,by rw[HE.out]<;>rfl,by rw[HE.out];exact HO2.out.below ((Below.refl _ _).alloc (Nat.le_refl _) _),HB2.out.alloc HB2.out.size _⟩
  ·obtain⟨hri,hj,hc,hxi⟩:=R2 HJ.out hr hyes
   obtain⟨hy1,hy2⟩:=ND hj hc
   have HY:=zH hyes
   have HY1:=zH hy1
   have HY2:=zH hy2
   have HST:Hid (fW (s.extract r (r+i))=false→R=(ds,r)):=fun h=>by rw[←HR.out];exact GV (hy2 h) (by omega)
   have HLS:=zH (k5 (s:=s) (a:=r) (b:=r+i) (by omega))
   rw[hx] at HES HY hxi
   obtain⟨l,hl⟩:∃l,s.extract r (r+i)=l:=⟨_,rfl⟩
   rw[hl] at HY1 HLS HST hxi
   have hxs:x.size≤1048576:=by rw[HES.out];omega
   have hls:l.size≤1048576:=by rw[HLS.out];omega
   have hbnd:r+l.size+1≤s.size:=by rw[HLS.out];omega
   have HLN:Hid (r+l.size+1=r+i+1):=by unfold Hid;rw[HLS.out];omega
   have HXI:=zH hxi
   clear hyes hj hc hy1 hy2 hl HY2 hxi hri
   obtain⟨f,g,ok,HRD,HOK⟩:∃f g ok,Hid (∀W:World,Calls Tryz.prog 44 #[.string l] W fun e w' =>e= .returned (.tuple #[.agg #[.int .i64 f,.string g],.bool ok])∧Below W.heap.size W w')∧Hid (fW l=ok∧dZ l=(f,g)):=
    ⟨_,_,_,fun W=>wG l W hls,rfl,rfl⟩
   cases ok
   ·have HE:=zH (HST.out HOK.out.1)
    go_wp2_with (first
     |(go_at_call 43;refine(wT x 10 i HY hxs _).mono ?_;rintro e w' ⟨rfl,n,rfl⟩;rw[HXI.out];clear hx)
     |(go_at_call 44;refine(HRD.out _).mono ?_;rintro e w2 ⟨rfl,hb⟩;have HO2:=zH ((HO.out.drewN _).below hb);have HB2:=zH (aA (aE HB.out _) hb);clear hb))
    go_ret2
    exact⟨_,by rw[HE.out]<;>rfl,by rw[HE.out];exact HO2.out.below ((Below.refl _ _).alloc (Nat.le_refl _) _),HB2.out.alloc HB2.out.size _⟩
   ·have HN:=zH (HY1.out HOK.out.1)
    rw[HOK.out.2] at HN
    go_wp2_with (first
     |(go_at_call 43;refine(wT x 10 i HY hxs _).mono ?_;rintro e w' ⟨rfl,n,rfl⟩;rw[HXI.out];clear hx)
     |(go_at_call 44;refine(HRD.out _).mono ?_;rintro e w2 ⟨rfl,hb⟩;have HO2:=zH (((HO.out.drewN _).below hb).below ((Below.refl _ _).alloc (Nat.le_refl _) (.cells #[.int .i64 f,.string g] 41)));have HB2:=zH (aA (aE HB.out _) hb);have HB3:=zH (HB2.out.alloc HB2.out.size (.cells #[.int .i64 f,.string g] 41));clear hb)
     |(at_builtin;refine nW (W:=w2.alloc (.cells #[.int .i64 f,.string g] 41)) rfl _ _ rfl w.heap.size u4 ds rfl HO2.out f g (by rw[World.size_alloc];rfl) (by omega) HB3.out.size ?_;intro v' w3 ho hg;have HB4:=zH (lS HB3.out HB3.out.size HO2.out (Nat.le_refl _) hg);have HO4:=zH ho;clear ho hg))
    go_roundw
    case rel=>exact⟨r+l.size+1,_,by omega,by go_num,by rw[List.length_append,List.length_singleton];omega,HO4,(by unfold Hid;rw[HLN.out];exact HN.out),HB4⟩
    case measure=>simp[Go.RowKit.intOf];omega
theorem U7(s:ByteArray)(w:World)(hs:s.size≤1048576):
  Calls Tryz.prog 10 #[.string s] w fun e w' =>∃v,e= .returned (.tuple #[v,.int .i64 ((xW s).2:Nat)])∧bU w' w.heap.size v (xW s).1∧Below w.heap.size w w' :=by
 obtain⟨R,HR⟩:∃R,Hid (xW s=R):=⟨_,rfl⟩
 rw[HR.out]
 have HO0:Hid (bU (w.alloc (.cells #[] 41)) w.heap.size (.slice (some ⟨w.heap.size,0,none⟩) 0 0) []):=bU.lit0 w _ (Nat.le_refl _)
 go_enter Tryz.func10,Tryz.ntmps10
 go_wp2_with fail
 go_loopw [4,5,6] (fun o i j wr=>∃(r k:Nat) (ds:List bK),r≤k∧k≤s.size∧i= .int .i64 r∧j= .int .i64 k∧ds.length≤r∧Hid (bU wr w.heap.size o ds)∧Hid (k8 (bL s) k=(ds.map p9,r,false))∧Hid (Below w.heap.size w wr)) (fun _ _ j _=>s.size-(Go.RowKit.intOf j).toNat)
 case atStart=>exact⟨0,0,[],Nat.le_refl _,Nat.zero_le _,rfl,rfl,Nat.zero_le _,HO0,rfl,(Below.refl _ _).alloc (Nat.le_refl _) _⟩
 case round=>
  obtain⟨r,k,ds,hrk,hk,rfl,rfl,hdl,HO,HJ,HB⟩:=hrel
  by_cases hlt:k<s.size
  ·have hd0:(0:Int)≤(k:Int):=by omega
   have hd:(k:Int)<(s.size:Int):=by omega
   have hd1:(0:Int)≤(r:Int):=by omega
   have hd2:(r:Int)≤(k:Int):=by omega
   have hd3:(k:Int)≤(s.size:Int):=by omega
   have hget:(bL s)[k]? =some s[k]:=by unfold bL;rw[Array.getElem?_toList];exact Array.getElem?_eq_getElem hlt
   have h10:s[k]=10↔s[k].toNat=10:=⟨fun h=>by rw[h];rfl,fun h=>UInt8.toNat_inj.1 h⟩
   obtain⟨c,hc⟩:∃c,s[k].toNat=c:=⟨_,rfl⟩
   rw[hc] at h10
   by_cases h:c=10
   ·have hcb:((c:Int)==10)=true:=by rw[beq_iff_eq];omega
    have hnl:(bL s)[k]? =some 10:=by rw[hget,h10.2 h]
    obtain⟨hy1,hy2⟩:=ND HJ.out hnl
    have HY1:=zH hy1
    have HST:Hid (fW (s.extract r k)=false→R=(ds,r)):=fun h=>by rw[←HR.out];exact GV (hy2 h) (by omega)
    have HLS:=zH (k5 (s:=s) (a:=r) (b:=k) hk)
    obtain⟨l,hl⟩:∃l,s.extract r k=l:=⟨_,rfl⟩
    rw[hl] at HY1 HLS HST
    have hls:l.size≤1048576:=by rw[HLS.out];omega
    clear hget h10 hnl hy1 hy2 h
    obtain⟨f,g,ok,HRD,HOK⟩:∃f g ok,Hid (∀W:World,Calls Tryz.prog 45 #[.string l] W fun e w' =>e= .returned (.tuple #[.agg #[.int .i64 f,.string g],.bool ok])∧Below W.heap.size W w')∧Hid (fW l=ok∧dZ l=(f,g)):=
     ⟨_,_,_,fun W=>DN l W hls,rfl,rfl⟩
    cases ok
    ·have HE:=zH (HST.out HOK.out.1)
     go_wp2_with (go_at_call 45;refine(HRD.out _).mono ?_;rintro e w2 ⟨rfl,hb⟩;have HO2:=zH (HO.out.below hb);have HB2:=zH (aA HB.out hb);clear hb)
     go_ret2
     exact⟨_,by rw[HE.out]<;>rfl,by rw[HE.out];exact HO2.out.below ((Below.refl _ _).alloc (Nat.le_refl _) _),HB2.out.alloc HB2.out.size _⟩
    ·have HN:=zH (HY1.out HOK.out.1)
     rw[HOK.out.2] at HN
     go_wp2_with (first
      |(go_at_call 45;refine(HRD.out _).mono ?_;rintro e w2 ⟨rfl,hb⟩;have HO2:=zH ((HO.out.below hb).below ((Below.refl _ _).alloc (Nat.le_refl _) (.cells #[.int .i64 f,.string g] 41)));have HB2:=zH (aA HB.out hb);have HB3:=zH (HB2.out.alloc HB2.out.size (.cells #[.int .i64 f,.string g] 41));clear hb)
      |(at_builtin;refine nW (W:=w2.alloc (.cells #[.int .i64 f,.string g] 41)) rfl _ _ rfl w.heap.size u4 ds rfl HO2.out f g (by rw[World.size_alloc];rfl) (by omega) HB3.out.size ?_;intro v' w3 ho hg;have HB4:=zH (lS HB3.out HB3.out.size HO2.out (Nat.le_refl _) hg);have HO4:=zH ho;clear ho hg))
     go_roundw
     case rel=>exact⟨k+1,k+1,_,Nat.le_refl _,by omega,by go_num,by go_num,by rw[List.length_append,List.length_singleton];omega,HO4,HN,HB4⟩
     case measure=>simp[Go.RowKit.intOf];omega
   ·have hcb:((c:Int)==10)=false:=by rw[beq_eq_false_iff_ne];omega
    have HN:=zH (OG HJ.out (by rw[hget];intro e;exact h (h10.1 (Option.some.inj e))))
    clear hget h10 h
    go_wp2_with fail
    go_roundw
    case rel=>exact⟨r,k+1,ds,by omega,by omega,rfl,by go_num,hdl,HO,HN,HB⟩
    case measure=>simp[Go.RowKit.intOf];omega
  ·obtain rfl:k=s.size:=by omega
   have HE:=zH (LH HJ.out)
   rw[HR.out] at HE
   go_wp2_with fail
   go_ret2
   exact⟨_,by rw[HE.out]<;>rfl,by rw[HE.out];exact HO.out,HB.out⟩
def EF(ds:List bK)(k:Nat):Nat→Value:=fun j=>if j<k*2 then((nG ds)[j]?).getD (.int .i64 0) else(if j%2=0 then .int .i64 0 else .string ⟨#[]⟩)
theorem NG(m:Nat):∀i,i<(madeCells #[Value.int .i64 0,.string ⟨#[]⟩] (m*2)).size→(madeCells #[Value.int .i64 0,.string ⟨#[]⟩] (m*2))[i]? =some (if i%2=0 then .int .i64 0 else .string ⟨#[]⟩):=by
 intro i hi
 rw[size_madeCells] at hi
 have h2:i%2=0∨i%2=1:=by omega
 unfold madeCells
 rw[Array.getElem?_map,Array.getElem?_range,if_pos hi]
 rcases h2 with h|h<;>simp[h]
theorem DG(w:World)(n:Nat)(ds:List bK):(w.alloc (.cells (madeCells #[Value.int .i64 0,.string ⟨#[]⟩] (n*2)) 41)).rowIs w.heap.size 41 (n*2) (EF ds 0):=by
 have:=World.rowIs_alloc w (madeCells #[Value.int .i64 0,.string ⟨#[]⟩] (n*2)) 41 (EF ds 0) (fun i hi=>by rw[NG _ i hi];unfold EF;rw[if_neg (show¬i<0*2 by omega)])
 rwa [size_madeCells] at this
theorem KV(n:Nat)(hn:n≤1048576)(W:World):(Instr.makeSlice 24 (.int .i64 (n:Int)) (.int .i64 (n:Int))).run Tryz.prog W= .ok (.slice (some ⟨W.heap.size,0,none⟩) n n) (W.alloc (.cells (madeCells #[Value.int .i64 0,.string ⟨#[]⟩] (n*2)) 41)):=by
 obtain⟨i0,hi0,hz0,hz1,hz2⟩:=info_parts u9
 have h:=run_make (P:=Tryz.prog) W 24 41 i0 _ Tryz.underlying24 hi0 hz0 .i64 .i64 (n:Int) (n:Int) (by omega) (Int.le_refl _) (by rw[hz2];omega) (by omega)
 rw[hz1,Int.toNat_natCast] at h
 exact h
theorem bU.keep{w w' :World}{lo:Nat}{v:Value}{ds:List bK}(h:bU w lo v ds)(hk:aX lo w w'):bU w' lo v ds:=by
 refine⟨h.1,?_⟩
 rcases h.2 with h|⟨g,cap,cur,h1,h2,h3,h4⟩
 ·exact .inl h
 ·exact .inr ⟨g,cap,cur,h1,h2,(hk.2 g h2 (Array.getElem?_eq_some_iff.1 h3).1).trans h3,h4⟩
def xM(T:aL)(ds:List bK):aL×Nat:=if dP T=true∧ds.length≤40 then dU aH T ds else(lW,0)
theorem JW{T:aL}{ds:List bK}(h:¬(dP T=true∧ds.length≤40)):xM T ds=(lW,0):=if_neg h
theorem RO{T:aL}{ds:List bK}(h:dP T=true)(hl:ds.length≤40):xM T ds=dU aH T ds:=if_pos ⟨h,hl⟩
theorem RJ{T:aL}{ds:List bK}{k:Nat}{d:bK}(h:Hid (ds[k]? =some d)):dU aH T (ds.take (k+1))=cL aH (dU aH T (ds.take k)) d:=by
 rw[KT h,PC]
theorem UH(T:aL)(l:List bK)(h:dP T=true):dP (dU aH T l).1=true:=(UT aH l h).1
theorem Q5{X:aL}{N:Nat}{d:bK}(h:dP X=true):((dN X d.1 d.2).2=false∧(dN X d.1 d.2).1=X∧cL aH (X,N) d=(X,N))∨((dN X d.1 d.2).2=true∧cL aH (X,N) d=((dN X d.1 d.2).1,N+1)):=by
 cases hd:gJ X d.1 d.2 with
 |none=>left;rw[sZ h hd];refine⟨rfl,rfl,?_⟩;unfold cL;rw[show cX aH (X,N).1 d.1 d.2=none from hd]
 |some Y=>right;rw[rJ h hd];refine⟨rfl,?_⟩;unfold cL;rw[show cX aH (X,N).1 d.1 d.2=some Y from hd]
def xK(X:aL)(N:Nat)(w:World)(e:Ending)(w' :World):Prop:=∃o p vs,e= .returned (.tuple #[.agg #[.int .i64 X.things,.int .i64 X.now.known,o,p],.int .i64 (N:Int)])∧aK w' w.heap.size o X.now.op∧aY 30 w' w.heap.size p vs X.past∧pE o vs∧Below w.heap.size w w'
theorem NC{w W:World}{T:aL}{A B:Option Addr}{n c m d:Nat}(h:bN w T A n c B m d)(hle:w.heap.size≤W.heap.size)(he:∀k,k<w.heap.size→W.heap[k]? =w.heap[k]?):bN W T A n c B m d:=by
 refine⟨h.hn,h.hc,h.hm,yN h.hA hle he,h.pn,h.pc,h.pm,fun hn=> ?_⟩
 obtain⟨b,off,e,hlt,hc⟩:=h.hB hn
 refine⟨b,off,e,Nat.lt_of_lt_of_le hlt hle,fun i x hx=> ?_⟩
 obtain⟨Ai,ci,h1,h2,h3,h4,h5⟩:=hc i x hx
 exact⟨Ai,ci,(World.cell?_of_block (a:=⟨b,off+i*2,none⟩) (he b hlt)).trans h1,(World.cell?_of_block (a:=⟨b,off+i*2+1,none⟩) (he b hlt)).trans h2,h3,h4,yN h5 hle he⟩
theorem wB{w W:World}{L:Option Addr}{ds:List bK}{h:Nat}(hd:i7 w L ds)(hW:fI h w W)(hL:0<ds.length→∀ad,L=some ad→ad.block≠h):i7 W L ds:=by
 intro hn
 obtain⟨b,off,e,hlt,hc⟩:=hd hn
 have hb:W.heap[b]? =w.heap[b]? :=hW.2 b hlt (hL hn _ e)
 exact⟨b,off,e,Nat.lt_of_lt_of_le hlt hW.1,fun i x hx=>by
  obtain⟨h1,h2⟩:=hc i x hx
  exact⟨(World.cell?_of_block (a:=⟨b,off+i*2,none⟩) hb).trans h1,(World.cell?_of_block (a:=⟨b,off+i*2+1,none⟩) hb).trans h2⟩⟩
theorem X4(T:aL)(A B L:Option Addr)(n c m d ln lc:Nat)(ds:List bK)(w:World)(hT:bN w T A n c B m d)(hs:cD T)(hL:sA w L ln lc ds)(hds:∀x∈ds,x.2.size≤1048576):
  Calls Tryz.prog 16 #[.agg #[.int .i64 T.things,.int .i64 T.now.known,.slice A n c,.slice B m d],.slice L ln lc] w (xK (xM T ds).1 (xM T ds).2 w):=by
 obtain rfl:=hL.hn
 have hll:=hL.hl
 obtain⟨HX,HR,HB⟩:=vM w (.int .i64 T.things) (.int .i64 T.now.known) (.slice A n c) (.slice B m d)
 have HT:=zH (hT.below HB.out)
 have HL:=zH (hL.hA.below HB.out)
 have HS:=zH hs
 have HDS:=zH hds
 obtain⟨z,hz⟩:∃z,dP T=z:=⟨_,rfl⟩
 have HZ:=zH hz
 clear hT hs hL hds hz
 obtain⟨P,hP⟩:∃P,xM T ds=P:=⟨_,rfl⟩
 have HP:=zH hP
 rw[hP]
 clear hP
 go_enter Tryz.func16,Tryz.ntmps16
 go_upto_region 1 with fail
 obtain⟨W0,hW0⟩:∃W,(w.alloc (.cells #[.int .i64 T.things,.int .i64 T.now.known,.slice A n c,.slice B m d] 33)).alloc (.cells #[.int .i64 0,.int .i64 0,.slice none 0 0,.slice none 0 0] 33)=W:=⟨_,rfl⟩
 rw[hW0] at HX HR HB HT HL⊢
 clear hW0
 have hc0:=HX.out.cell (i:=0) (v:= .int .i64 T.things) rfl
 have hc1:=HX.out.cell (i:=1) (v:= .int .i64 T.now.known) rfl
 have hc2:=HX.out.cell (i:=2) (v:= .slice A n c) rfl
 have hc3:=HX.out.cell (i:=3) (v:= .slice B m d) rfl
 have HOK:=zH (J3 T A B n c m d W0 HT.out HS.out)
 rw[HZ.out] at HOK
 go_wp2_with fail
 refine HOK.out.mono ?_
 rintro e w1 ⟨rfl,hb⟩
 have HX1:=zH (HX.out.below hb)
 have HR1:=zH (HR.out.below hb)
 have HB1:=zH (aA HB.out hb)
 have HT1:=zH (HT.out.below hb)
 have HL1:=zH (HL.out.below hb)
 clear hb hc0 hc1 hc2 hc3 HX HR HB HT HL HOK
 have HBAD:Hid (∀w1,Below w.heap.size w w1→Hid (Below w.heap.size w ((((w1.setCell ⟨w.heap.size+1,0,none⟩ (.int .i64 0)).setCell ⟨w.heap.size+1,1,none⟩ (.int .i64 0)).setCell ⟨w.heap.size+1,2,none⟩ (.slice none 0 0)).setCell ⟨w.heap.size+1,3,none⟩ (.slice none 0 0)))):=fun w1 h=>bG h (show w.heap.size≤w.heap.size+1 by omega) _ _ _ _
 cases z with
 |false=>
  have HPE:Hid (P=(lW,0)):=HP.out.symm.trans (JW fun h=>by have:=HZ.out;rw[h.1] at this;cases this)
  obtain⟨⟨ha0,ha1,ha2,ha3,ha4,ha5,ha6,ha7⟩,⟨hb2,hb3⟩,⟨hb4,hb5⟩,⟨hb6,hb7⟩,HOUT⟩:=HR1.out.store4 (.int .i64 0) (.int .i64 0) (.slice none 0 0) (.slice none 0 0)
  have HBE:=HBAD.out w1 HB1.out
  go_wp2_with fail
  refine bodyPost_ret_by (aU (b:=w.heap.size+1) rfl rfl rfl HOUT) rfl ?_
  show xK P.1 P.2 w _ _
  rw[HPE.out]
  exact⟨.slice none 0 0,.slice none 0 0,[],rfl,aK.nil _ _,aY.nil _ _ _,pE.nil _,HBE.out⟩
 |true=>
  by_cases hl:40<ds.length
  ·have hd:decide ((40:Int)<(ds.length:Int))=true:=decide_eq_true (by omega)
   have HPE:Hid (P=(lW,0)):=HP.out.symm.trans (JW fun h=>by have:=h.2;omega)
   obtain⟨⟨ha0,ha1,ha2,ha3,ha4,ha5,ha6,ha7⟩,⟨hb2,hb3⟩,⟨hb4,hb5⟩,⟨hb6,hb7⟩,HOUT⟩:=HR1.out.store4 (.int .i64 0) (.int .i64 0) (.slice none 0 0) (.slice none 0 0)
   have HBE:=HBAD.out w1 HB1.out
   clear hl
   go_wp2_with fail
   refine bodyPost_ret_by (aU (b:=w.heap.size+1) rfl rfl rfl HOUT) rfl ?_
   show xK P.1 P.2 w _ _
   rw[HPE.out]
   exact⟨.slice none 0 0,.slice none 0 0,[],rfl,aK.nil _ _,aY.nil _ _ _,pE.nil _,HBE.out⟩
  have hd:decide ((40:Int)<(ds.length:Int))=false:=decide_eq_false (by omega)
  have hl40:ds.length≤40:=by omega
  have HE:Hid (xM T ds=dU aH T ds):=RO HZ.out hl40
  clear hl HBAD
  have hc0:=HX1.out.cell (i:=0) (v:= .int .i64 T.things) rfl
  have hc1:=HX1.out.cell (i:=1) (v:= .int .i64 T.now.known) rfl
  have hc2:=HX1.out.cell (i:=2) (v:= .slice A n c) rfl
  have hc3:=HX1.out.cell (i:=3) (v:= .slice B m d) rfl
  go_wp2_with fail
  refine(zQ T.things T.now.known _ _ A B n c m d rfl rfl w1).mono ?_
  rintro e w2 ⟨rfl,hb⟩
  have HR2:=zH (HR1.out.below hb)
  have HB2:=zH (aA HB1.out hb)
  have HT2:=zH (HT1.out.below hb)
  have HL2:=zH (HL1.out.below hb)
  clear hb hc0 hc1 hc2 hc3 HX1 HR1 HB1 HT1 HL1
  go_upto_region 4 with fail
  have hG:=aD.new w2 79 [.int .i64 T.now.known,.slice A n c,.int .i64 T.things,.slice B m d]
  have hbel:=oA w2 (.cells #[.int .i64 T.now.known,.slice A n c,.int .i64 T.things,.slice B m d] 79)
  have HR3:=zH (HR2.out.below hbel)
  have HB3:=zH (aA HB2.out hbel)
  have HT3:=zH (HT2.out.below hbel)
  have HL3:=zH (HL2.out.below hbel)
  have HAT3:Hid (∀W,fI w2.heap.size (w2.alloc (.cells #[.int .i64 T.now.known,.slice A n c,.int .i64 T.things,.slice B m d] 79)) W→bN W T A n c B m d):=fun W hW=>by
   have hsz:=HT2.out
   have he:∀k,k<w2.heap.size→W.heap[k]? =w2.heap[k]? :=fun k hk=>(hW.2 k (by rw[World.size_alloc];omega) (by omega)).trans (hbel.block k hk)
   have hle:w2.heap.size≤W.heap.size:=Nat.le_trans hbel.size hW.1
   exact NC HT2.out hle he
  have hh6:w.heap.size+1<w2.heap.size:=HR2.out.lt
  have HLB:Hid (0<ds.length→∀ad,L=some ad→ad.block<w2.heap.size):=fun hn ad e=>by
   obtain⟨b,off,e2,hlt,_⟩:=HL2.out hn
   rw[e] at e2
   cases e2
   exact hlt
  have hgl:w2.heap.size<(w2.alloc (.cells #[.int .i64 T.now.known,.slice A n c,.int .i64 T.things,.slice B m d] 79)).heap.size:=by rw[World.size_alloc];omega
  obtain⟨h6,he6⟩:∃h6,w2.heap.size=h6:=⟨_,rfl⟩
  obtain⟨W3,hW3⟩:∃W,w2.alloc (.cells #[.int .i64 T.now.known,.slice A n c,.int .i64 T.things,.slice B m d] 79)=W:=⟨_,rfl⟩
  rw[hW3] at hG HR3 HB3 HT3 HL3 HAT3
  rw[hW3] at hgl
  rw[he6] at hG HAT3 hh6 hgl HLB
  rw[hW3]
  try rw[he6]
  have HG:=zH hG
  clear hW3 he6 hG hbel HR2 HB2 HT2 HL2 hgl hd
  have HN0:Hid (dU aH T (ds.take 0)=(T,0)):=rfl
  go_wp2_with fail
  go_loopw [7,25] (fun cn i wr=>∃(k:Nat) (X:aL) (N:Nat) (A:Option Addr) (n c:Nat) (B:Option Addr) (m d:Nat),k≤ds.length∧i= .int .i64 k∧cn= .int .i64 N∧N≤k∧Hid (dU aH T (ds.take k)=(X,N))∧Hid (aD wr h6 79 [.int .i64 X.now.known,.slice A n c,.int .i64 X.things,.slice B m d])∧Hid (∀W,fI h6 wr W→bN W X A n c B m d)∧Hid (Below w.heap.size w wr)∧Hid (aD wr (w.heap.size+1) 33 [.int .i64 0,.int .i64 0,.slice none 0 0,.slice none 0 0])∧Hid (i7 wr L ds)) (fun _ i _=>ds.length-(Go.RowKit.intOf i).toNat)
  case atStart=>exact⟨0,T,0,A,n,c,B,m,d,Nat.zero_le _,rfl,rfl,Nat.le_refl _,HN0,HG,HAT3,HB3,HR3,HL3⟩
  case round=>
   obtain⟨k,X,N,A,n,c,B,m,d,hk,rfl,rfl,hNk,HRUN,HG,HAT,HB,HR,HL⟩:=hrel
   have HXO:Hid (dP X=true):=by
    have:=UH T (ds.take k) HZ.out
    rw[HRUN.out] at this;exact this
   by_cases hlt:k<ds.length
   ·obtain⟨b,off,kd,tx,rfl,he0,he1,hx,hbl⟩:=HL.out.elem hlt
    have HDX:=zH (HDS.out _ (vU hx))
    have HNX:=zH (RJ (T:=T) hx)
    have HWAY:=zH (Q5 (N:=N) (d:=(kd,tx)) HXO.out)
    go_upto_region 7 with fail
    have hD:=aD.new wr 41 [.int .i64 kd,.string tx]
    have hbel:=oA wr (.cells #[.int .i64 kd,.string tx] 41)
    have HG4:=zH (HG.out.below hbel)
    have HB4:=zH (aA HB.out hbel)
    have HR4:=zH (HR.out.below hbel)
    have HL4:=zH (HL.out.below hbel)
    have HAT4:Hid (∀W,fI h6 (wr.alloc (.cells #[.int .i64 kd,.string tx] 41)) W→bN W X A n c B m d):=fun W hW=>HAT.out W ((fI.of_below hbel).trans hW)
    obtain⟨W4,hW4⟩:∃W,wr.alloc (.cells #[.int .i64 kd,.string tx] 41)=W:=⟨_,rfl⟩
    obtain⟨h9,he9⟩:∃h9,wr.heap.size=h9:=⟨_,rfl⟩
    rw[hW4] at hD HG4 HB4 HR4 HL4 HAT4
    rw[hW4]
    rw[he9] at hD
    try rw[he9]
    have HD:=zH hD
    clear hW4 he9 hD hbel HG HB HR HL HAT he0 he1
    have hg0:=HG4.out.cell (i:=0) (v:= .int .i64 X.now.known) rfl
    have hg1:=HG4.out.cell (i:=1) (v:= .slice A n c) rfl
    have hg2:=HG4.out.cell (i:=2) (v:= .int .i64 X.things) rfl
    have hg3:=HG4.out.cell (i:=3) (v:= .slice B m d) rfl
    have hd0:=HD.out.cell (i:=0) (v:= .int .i64 kd) rfl
    have hd1:=HD.out.cell (i:=1) (v:= .string tx) rfl
    have HDO:=zH (XW X A B n c m d kd tx (fI h6 W4) W4 (L7 HAT4.out) (fI.refl h6 W4) HXO.out HDX.out)
    obtain⟨P,hP⟩:∃P,dN X kd tx=P:=⟨_,rfl⟩
    rw[hP] at HDO HWAY
    obtain⟨Y,r⟩:=P
    clear hP
    go_wp2_with fail
    refine HDO.out.mono ?_
    rintro e w5 ⟨A',n',c',B',m',d',rfl,hat,hb⟩
    have HG5:=zH (HG4.out.below hb)
    have HB5:=zH (aA HB4.out hb)
    have HR5:=zH (HR4.out.below hb)
    have HL5:=zH (HL4.out.below hb)
    have HATN:=zH (fun w9 hb9 a b r q=>PU (w9:=w9) HG4.out.lt hat hb hb9 a b r q)
    have HATO:Hid (∀W,fI h6 w5 W→bN W X A n c B m d):=fun W hW=>HAT4.out W ((fI.of_below hb).trans hW)
    clear hat hb hg0 hg1 hg2 hg3 hd0 hd1 HG4 HB4 HR4 HL4 HAT4 HD HDO
    go_upto_region 8 with fail
    have hE:=aD.new w5 79 [.int .i64 Y.now.known,.slice A' n' c',.int .i64 Y.things,.slice B' m' d']
    have hbel:=oA w5 (.cells #[.int .i64 Y.now.known,.slice A' n' c',.int .i64 Y.things,.slice B' m' d'] 79)
    have HG6:=zH (HG5.out.below hbel)
    have HB6:=zH (aA HB5.out hbel)
    have HR6:=zH (HR5.out.below hbel)
    have HL6:=zH (HL5.out.below hbel)
    have HATO6:Hid (∀W,fI h6 (w5.alloc (.cells #[.int .i64 Y.now.known,.slice A' n' c',.int .i64 Y.things,.slice B' m' d'] 79)) W→bN W X A n c B m d):=fun W hW=>HATO.out W ((fI.of_below hbel).trans hW)
    have HATN6:=zH (HATN.out _ hbel)
    obtain⟨W6,hW6⟩:∃W,w5.alloc (.cells #[.int .i64 Y.now.known,.slice A' n' c',.int .i64 Y.things,.slice B' m' d'] 79)=W:=⟨_,rfl⟩
    obtain⟨h10,he10⟩:∃h10,w5.heap.size=h10:=⟨_,rfl⟩
    rw[hW6] at hE HG6 HB6 HR6 HL6 HATO6 HATN6
    rw[hW6]
    rw[he10] at hE
    try rw[he10]
    have HE10:=zH hE
    clear hW6 he10 hE hbel HG5 HB5 HR5 HL5 HATO HATN
    cases r with
    |false=>
     have HST:Hid (dU aH T (ds.take (k+1))=(X,N)):=by
      unfold Hid
      rw[HNX.out,HRUN.out]
      rcases HWAY.out with⟨_,_,h⟩|⟨h,_⟩
      ·exact h
      ·cases h
     go_wp2_with fail
     go_roundw
     case rel=>exact⟨k+1,X,N,A,n,c,B,m,d,by omega,by go_num,rfl,by omega,HST,HG6,HATO6,HB6,HR6,HL6⟩
     case measure=>simp[Go.RowKit.intOf];omega
    |true=>
     have HST:Hid (dU aH T (ds.take (k+1))=(Y,N+1)):=by
      unfold Hid
      rw[HNX.out,HRUN.out]
      rcases HWAY.out with⟨h,_⟩|⟨_,h⟩
      ·cases h
      ·exact h
     have hz0:=HE10.out.cell (i:=0) (v:= .int .i64 Y.now.known) rfl
     have hz1:=HE10.out.cell (i:=1) (v:= .slice A' n' c') rfl
     have hz2:=HE10.out.cell (i:=2) (v:= .int .i64 Y.things) rfl
     have hz3:=HE10.out.cell (i:=3) (v:= .slice B' m' d') rfl
     obtain⟨⟨ha0,ha1,ha2,ha3,ha4,ha5,ha6,ha7⟩,⟨hb2,hb3⟩,⟨hb4,hb5⟩,⟨hb6,hb7⟩,HG7⟩:=HG6.out.store4 (.int .i64 Y.now.known) (.slice A' n' c') (.int .i64 Y.things) (.slice B' m' d')
     have HB7:=zH (bG HB6.out (show w.heap.size≤h6 by omega) (.int .i64 Y.now.known) (.slice A' n' c') (.int .i64 Y.things) (.slice B' m' d'))
     have HR7:=zH (HR6.out.other4 (g:=h6) (by omega) (.int .i64 Y.now.known) (.slice A' n' c') (.int .i64 Y.things) (.slice B' m' d'))
     have HL7:Hid (i7 ((((W6.setCell ⟨h6,0,none⟩ (.int .i64 Y.now.known)).setCell ⟨h6,1,none⟩ (.slice A' n' c')).setCell ⟨h6,2,none⟩ (.int .i64 Y.things)).setCell ⟨h6,3,none⟩ (.slice B' m' d')) (some ⟨b,off,none⟩) ds):=wB HL6.out (fI.set4 h6 W6 _ _ _ _) (fun hn ad e=>by have:=HLB.out hn ad e;omega)
     have HAT7:=zH (HATN6.out (.int .i64 Y.now.known) (.slice A' n' c') (.int .i64 Y.things) (.slice B' m' d'))
     go_wp2_with fail
     go_roundw
     case rel=>exact⟨k+1,Y,N+1,A',n',c',B',m',d',by omega,by go_num,by go_num,by omega,HST,HG7,HAT7,HB7,HR7,HL7⟩
     case measure=>simp[Go.RowKit.intOf];omega
   ·obtain rfl:k=ds.length:=by omega
    have HFIN:Hid (dU aH T ds=(X,N)):=by
     have:=HRUN.out
     rw[List.take_length] at this;exact this
    have HPE:Hid (P=(X,N)):=HP.out.symm.trans (HE.out.trans HFIN.out)
    have hg0:=HG.out.cell (i:=0) (v:= .int .i64 X.now.known) rfl
    have hg1:=HG.out.cell (i:=1) (v:= .slice A n c) rfl
    have hg2:=HG.out.cell (i:=2) (v:= .int .i64 X.things) rfl
    have hg3:=HG.out.cell (i:=3) (v:= .slice B m d) rfl
    have HGI:=zH (SF X A B n c m d wr (HAT.out wr (fI.refl _ _)) (lQ HXO.out))
    go_wp2_with fail
    refine HGI.out.mono ?_
    rintro e w8 ⟨o,p,vs,rfl,ho,hp,hap,hb⟩
    obtain⟨Ao,co,rfl,_⟩:=ho.form
    obtain⟨Ap,cp,rfl,_⟩:=hp.form
    have HR8:=zH (HR.out.below hb)
    have HB8:=zH (aA HB.out hb)
    have hzl:w.heap.size+1<wr.heap.size:=HR.out.lt
    obtain⟨⟨ha0,ha1,ha2,ha3,ha4,ha5,ha6,ha7⟩,⟨hb2,hb3⟩,⟨hb4,hb5⟩,⟨hb6,hb7⟩,HOUT⟩:=HR8.out.store4 (.int .i64 X.things) (.int .i64 X.now.known) (.slice Ao X.now.op.length co) (.slice Ap X.past.length cp)
    have hke:aX wr.heap.size w8 _:=nL hzl (.int .i64 X.things) (.int .i64 X.now.known) (.slice Ao X.now.op.length co) (.slice Ap X.past.length cp)
    have HFO:=zH (And.intro ((ho.keep hke).base HB.out.size) (And.intro ((hp.keep hke).base HB.out.size) (And.intro hap (bG HB8.out (show w.heap.size≤w.heap.size+1 by omega) (.int .i64 X.things) (.int .i64 X.now.known) (.slice Ao X.now.op.length co) (.slice Ap X.past.length cp)))))
    clear ho hp hap hb hke hg0 hg1 hg2 hg3
    go_wp2_with fail
    refine bodyPost_ret_by (aU (b:=w.heap.size+1) rfl rfl rfl HOUT) rfl ?_
    show xK P.1 P.2 w _ _
    rw[HPE.out]
    exact⟨_,_,vs,rfl,HFO.out⟩
end Go.Proofs.YtfhjcacfchkdpaaGreatDoor
