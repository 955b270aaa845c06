/-
  What the proofs of this seat's statements share (MathX, MathY, StrO, StaO, TlkM, StrC, DedS, DedT).
-/
import Derived.Laws.Strings
import Derived.RangeFuncBox
import Derived.Deep.RegionWith
import Derived.Deep.Cut
import Derived.Test.YtfhjcacfchkdpaaGreatDoorU16
set_option maxRecDepth 100000
set_option maxHeartbeats 32000000
namespace Go.Proofs.YtfhjcacfchkdpaaGreatDoor
open Go.RowKit
structure St (α:Type) where
 known:Int
 op:List α
structure Tk (α:Type) where
 things:Int
 now:St α
 past:List (St α)
structure QR (α:Type) where
 isS:Int→α→Bool
 sett:Int→Int→α→Bool
 tru:Int→α→Int
 none:α
section
variable {α:Type} [DecidableEq α] (Q:QR α)
def bC(t:Int)(x:St α):Bool:=
 aO t x.known&&decide (x.known≠0)&&decide (x.op.length≤4)&&x.op.all (fun s=>Q.isS t s&& !Q.sett t x.known s)&&decide x.op.Nodup
def dX(T:Tk α):Bool:=bC Q T.things T.now&&decide (T.past.length≤10)&&T.past.all (bC Q T.things)
def eD(l:List (St α)):List (St α):=if 10<l.length then l.tail else l
def iG(T:Tk α)(x:St α):Tk α:=⟨T.things,x,eD (T.past++[T.now])⟩
def cX(T:Tk α)(kind:Int)(text:α):Option (Tk α):=
 if kind=2 then
  if text=Q.none then
   match T.past.getLast? with
   |some x=>some ⟨T.things,x,T.past.dropLast⟩
   |Option.none=>Option.none
  else Option.none
 else if kind=0 then
  if Q.isS T.things text=true then
   let k:=aQ T.now.known (Q.tru T.things text)
   if k=0∨k=T.now.known then Option.none else some (iG T ⟨k,T.now.op.filter fun s=> !Q.sett T.things k s⟩)
  else Option.none
 else if kind=1 then
  if Q.isS T.things text=true then
   if aB T.now.known (Q.tru T.things text)=true∧bC Q T.things ⟨T.now.known,T.now.op++[text]⟩=true then some (iG T ⟨T.now.known,T.now.op++[text]⟩) else Option.none
  else Option.none
 else Option.none
theorem cS{t:Int}{x:St α}:bC Q t x=true↔aO t x.known=true∧x.known≠0∧x.op.length≤4∧(∀s∈x.op,Q.isS t s=true∧Q.sett t x.known s=false)∧x.op.Nodup:=by
 unfold bC
 simp only[Bool.and_eq_true,decide_eq_true_eq,List.all_eq_true,Bool.not_eq_true']
 constructor
 ·rintro⟨⟨⟨⟨a,b⟩,c⟩,d⟩,e⟩;exact⟨a,b,c,d,e⟩
 ·rintro⟨a,b,c,d,e⟩;exact⟨⟨⟨⟨a,b⟩,c⟩,d⟩,e⟩
theorem cT{T:Tk α}:dX Q T=true↔bC Q T.things T.now=true∧T.past.length≤10∧∀x∈T.past,bC Q T.things x=true:=by
 unfold dX
 simp only[Bool.and_eq_true,decide_eq_true_eq,List.all_eq_true]
 exact and_assoc
theorem WJ{T:Tk α}(h:dX Q T=true):dX Q ⟨T.things,T.now,[]⟩=true:=
 (cT Q).2 ⟨((cT Q).1 h).1,Nat.zero_le _,fun x hx=>by cases hx⟩
theorem JK{T:Tk α}{x:St α}(h:dX Q T=true)(hx:bC Q T.things x=true):dX Q (iG T x)=true:=by
 obtain⟨h1,h2,h3⟩:=(cT Q).1 h
 have hall:∀y∈T.past++[T.now],bC Q T.things y=true:=fun y hy=>by
  rcases List.mem_append.1 hy with hy|hy
  ·exact h3 y hy
  ·obtain rfl:=List.mem_singleton.1 hy;exact h1
 refine(cT Q).2 ⟨hx,?_,fun y hy=> ?_⟩
 ·show(eD (T.past++[T.now])).length≤10
  unfold eD
  split
  ·rw[List.length_tail,List.length_append];simp;omega
  ·omega
 ·have hy:y∈eD (T.past++[T.now]):=hy
  unfold eD at hy
  split at hy
  ·exact hall y (List.mem_of_mem_tail hy)
  ·exact hall y hy
theorem LX{T:Tk α}{k:Int}(h:dX Q T=true)(hk:aO T.things k=true)(h0:k≠0):bC Q T.things ⟨k,T.now.op.filter fun s=> !Q.sett T.things k s⟩=true:=by
 obtain⟨h1,_,_⟩:=(cT Q).1 h
 obtain⟨_,_,c,d,e⟩:=(cS Q).1 h1
 refine(cS Q).2 ⟨hk,h0,Nat.le_trans (List.length_filter_le _ _) c,fun s hs=> ?_,e.filter _⟩
 obtain⟨hs1,hs2⟩:=List.mem_filter.1 hs
 exact⟨(d s hs1).1,by simpa using hs2⟩
theorem JQ{t k:Int}(q:Int)(h:aO t k=true):aO t (aQ k q)=true:=by
 obtain⟨h1,h3,h0,ha,_⟩:=aZ h
 have:=lC k q h0
 have:=aR k q
 exact decide_eq_true ⟨h1,h3,by omega,by omega⟩
theorem LN{T X:Tk α}{kind:Int}{text:α}(h:dX Q T=true)(hd:cX Q T kind text=some X):dX Q X=true∧X.things=T.things:=by
 obtain⟨h1,h2,h3⟩:=(cT Q).1 h
 unfold cX at hd
 split at hd
 ·split at hd
  ·split at hd
   ·rename_i x hx
    cases hd
    have hm:=List.mem_of_getLast? hx
    refine⟨(cT Q).2 ⟨h3 x hm,?_,fun y hy=>h3 y ((List.dropLast_sublist _).subset hy)⟩,rfl⟩
    show T.past.dropLast.length≤10
    rw[List.length_dropLast];omega
   ·cases hd
  ·cases hd
 split at hd
 ·split at hd
  ·simp only at hd
   split at hd
   ·cases hd
   ·rename_i hk
    cases hd
    exact⟨JK Q h (LX Q h (JQ _ ((cS Q).1 h1).1) fun e=>hk (.inl e)),rfl⟩
  ·cases hd
 split at hd
 ·split at hd
  ·split at hd
   ·rename_i hk
    cases hd
    exact⟨JK Q h hk.2,rfl⟩
   ·cases hd
  ·cases hd
 ·cases hd
theorem YU{T X:Tk α}{kind:Int}{text:α}(hd:cX Q T kind text=some X)(hk:kind≠2)(hp:T.past.length<10):cX Q X 2 Q.none=some T:=by
 have key:∀x:St α,cX Q (iG T x) 2 Q.none=some T:=fun x=>by
  unfold cX iG eD
  rw[if_pos rfl,if_pos rfl,if_neg (by rw[List.length_append];simp;omega)]
  simp
 unfold cX at hd
 rw[if_neg hk] at hd
 split at hd
 ·split at hd
  ·simp only at hd
   split at hd
   ·cases hd
   ·cases hd;exact key _
  ·cases hd
 split at hd
 ·split at hd
  ·split at hd
   ·cases hd;exact key _
   ·cases hd
  ·cases hd
 ·cases hd
theorem YX{T X:Tk α}{text:α}(hd:cX Q T 0 text=some X):aB X.now.known (Q.tru T.things text)=true:=by
 unfold cX at hd
 rw[if_neg (by decide),if_pos rfl] at hd
 split at hd
 ·simp only at hd
  split at hd
  ·cases hd
  ·cases hd
   exact d4 _ _
 ·cases hd
theorem s6{T:Tk α}(h:dX Q T=true):∀s∈T.now.op,Q.isS T.things s=true∧Q.sett T.things T.now.known s=false:=
 ((cS Q).1 ((cT Q).1 h).1).2.2.2.1
def cL(p:Tk α×Nat)(d:Int×α):Tk α×Nat:=match cX Q p.1 d.1 d.2 with|some X=>(X,p.2+1)|Option.none=>p
def dU(T:Tk α)(l:List (Int×α)):Tk α×Nat:=l.foldl (cL Q) (T,0)
theorem UG{p:Tk α×Nat}(d:Int×α)(h:dX Q p.1=true):dX Q (cL Q p d).1=true∧(cL Q p d).1.things=p.1.things:=by
 unfold cL
 cases hd:cX Q p.1 d.1 d.2 with
 |none=>exact⟨h,rfl⟩
 |some X=>exact LN Q h hd
theorem FX:∀(l:List (Int×α)) {p:Tk α×Nat},dX Q p.1=true→dX Q (l.foldl (cL Q) p).1=true∧(l.foldl (cL Q) p).1.things=p.1.things
 |[],_,h=>⟨h,rfl⟩
 |d::l,p,h=>by
  obtain⟨a,b⟩:=UG Q d h
  obtain⟨c,e⟩:=FX l a
  exact⟨c,e.trans b⟩
theorem UT(l:List (Int×α)){T:Tk α}(h:dX Q T=true):dX Q (dU Q T l).1=true∧(dU Q T l).1.things=T.things:=FX Q l (p:=(T,0)) h
theorem KQ(T:Tk α)(n m:Nat)(d:Int×α):cL Q (T,n+m) d=((cL Q (T,m) d).1,n+(cL Q (T,m) d).2):=by
 unfold cL
 simp only
 cases cX Q T d.1 d.2<;>rfl
theorem yF:∀(l:List (Int×α)) (T:Tk α) (n m:Nat),l.foldl (cL Q) (T,n+m)=((l.foldl (cL Q) (T,m)).1,n+(l.foldl (cL Q) (T,m)).2)
 |[],_,_,_=>rfl
 |d::l,T,n,m=>by
  show l.foldl (cL Q) (cL Q (T,n+m) d)=((l.foldl (cL Q) (cL Q (T,m) d)).1,n+(l.foldl (cL Q) (cL Q (T,m) d)).2)
  rw[KQ]
  exact yF l _ n _
theorem WP(a b:List (Int×α))(T:Tk α):dU Q T (a++b)=((dU Q (dU Q T a).1 b).1,(dU Q T a).2+(dU Q (dU Q T a).1 b).2):=by
 unfold dU
 rw[List.foldl_append]
 exact yF Q b (a.foldl (cL Q) (T,0)).1 (a.foldl (cL Q) (T,0)).2 0
theorem PC(l:List (Int×α))(d:Int×α)(T:Tk α):dU Q T (l++[d])=cL Q (dU Q T l) d:=by
 unfold dU
 rw[List.foldl_append];rfl
end
end Go.Proofs.YtfhjcacfchkdpaaGreatDoor
namespace Go.Proofs.YtfhjcacfchkdpaaGreatDoor
open Go.RowKit
def bL(s:ByteArray):List UInt8:=s.data.toList
def cJ(l:List UInt8):ByteArray:=⟨l.toArray⟩
theorem kO(l:List UInt8):bL (cJ l)=l:=rfl
theorem r7(s:ByteArray):cJ (bL s)=s:=rfl
theorem gI{s u:ByteArray}(h:bL s=bL u):s=u:=by rw[←r7 s,h,r7]
theorem gF(s:ByteArray):(bL s).length=s.size:=rfl
def b8(d:Int×ByteArray):ByteArray:=cJ (eV ⟨d.1,bL d.2⟩)
def jN(s:ByteArray):Option (Int×ByteArray):=(oY (bL s)).map fun d=>(d.kind,cJ d.text)
theorem p4{s:ByteArray}{d:Int×ByteArray}:jN s=some d↔b8 d=s∧bL s≠[]:=by
 unfold jN b8
 rw[Option.map_eq_some_iff]
 constructor
 ·rintro⟨x,hx,rfl⟩
  obtain⟨h1,h2⟩:=OK hx
  exact⟨gI (by rw[kO,kO];exact h1),h2⟩
 ·rintro⟨rfl,h⟩
  exact⟨⟨d.1,bL d.2⟩,DS h,rfl⟩
def fS(n:Nat):List UInt8:=if n<10 then[(48+n).toUInt8] else fS (n / 10)++[(48+n%10).toUInt8]
theorem EL(n:Nat):fS n≠[]:=by
 unfold fS
 split<;>simp
def FF:List UInt8:=[107,110,111,119,110]
def K6:List UInt8:=[111,112,101,110]
def E3:List UInt8:=[110,111,119]
def L4:List UInt8:=[112,97,115,116]
def gT:List UInt8:=[115,101,116,116,108,101,100]
def r6:List UInt8:=[112,111,115,115,105,98,108,101]
def u6:List UInt8:=[115,101,110,115,101]
def EE:List UInt8:=[110,111,110,101]
def m0:List UInt8:=[119,104,97,116]
def vI:List UInt8:=[111,107]
def uQ:List UInt8:=[110,111]
def YC:List UInt8:=[121,101,115]
def kP(b:Bool):List UInt8:=if b=true then YC else uQ
def rF(l:List UInt8):Option (List UInt8×List UInt8):=
 if(32:UInt8)∈l then some (l.takeWhile (fun c=>c != 32),(l.dropWhile (fun c=>c != 32)).tail) else none
theorem FP{w r:List UInt8}(h:(32:UInt8)∉w):rF (w++32::r)=some (w,r):=by
 unfold rF
 rw[if_pos (by simp)]
 have h1:∀c∈w,(c != 32)=true:=fun c hc=>by
  rw[bne_iff_ne]
  rintro rfl;exact h hc
 rw[List.takeWhile_append_of_pos h1,List.dropWhile_append_of_pos h1]
 simp
section
variable (Q:QR ByteArray) (isL:Int→ByteArray→Bool) (sense:Int→Int→ByteArray→Bool)
def nI(T:Tk ByteArray)(l:List UInt8):List UInt8:=
 if l=FF then fS T.now.known.toNat
 else if l=K6 then fS T.now.op.length
 else if l=E3 then(match T.now.op.getLast? with|some s=>bL s|Option.none=>EE)
 else if l=L4 then fS T.past.length
 else match rF l with
  |Option.none=>m0
  |some (w,r)=>
   if w=gT∧Q.isS T.things (cJ r)=true then kP (Q.sett T.things T.now.known (cJ r))
   else if w=r6∧Q.isS T.things (cJ r)=true then kP (decide (aQ T.now.known (Q.tru T.things (cJ r))≠0))
   else if w=u6∧isL T.things (cJ r)=true then kP (sense T.things T.now.known (cJ r))
   else m0
def cH(T:Tk ByteArray)(line:ByteArray):Tk ByteArray×List UInt8:=
 match jN line with
 |some d=>(match cX Q T d.1 d.2 with|some X=>(X,vI)|Option.none=>(T,uQ))
 |Option.none=>(T,nI Q isL sense T (bL line))
theorem CA{T:Tk ByteArray}(line:ByteArray)(h:dX Q T=true):dX Q (cH Q isL sense T line).1=true∧(cH Q isL sense T line).1.things=T.things:=by
 unfold cH
 cases hr:jN line with
 |none=>exact⟨h,rfl⟩
 |some d=>
  simp only
  cases hd:cX Q T d.1 d.2 with
  |none=>exact⟨h,rfl⟩
  |some X=>exact LN Q h hd
theorem X3(T:Tk ByteArray)(line:ByteArray):(cH Q isL sense T line).2=vI∨(cH Q isL sense T line).1=T:=by
 unfold cH
 cases hr:jN line with
 |none=>exact .inr rfl
 |some d=>
  simp only
  cases hd:cX Q T d.1 d.2 with
  |none=>exact .inr rfl
  |some X=>exact .inl rfl
theorem XJ(T:Tk ByteArray):cH Q isL sense T (cJ [32])=(T,m0):=by
 unfold cH
 rw[show jN (cJ [32])=Option.none by decide]
 simp only
 rw[kO]
 unfold nI
 rw[if_neg (by decide),if_neg (by decide),if_neg (by decide),if_neg (by decide),show rF [32]=some ([],[]) by decide]
 simp only
 rw[if_neg (by simp[gT]),if_neg (by simp[r6]),if_neg (by simp[u6])]
theorem M5(T:Tk ByteArray){d:Int×ByteArray}(h:bL (b8 d)≠[]):cH Q isL sense T (b8 d)=match cX Q T d.1 d.2 with|some X=>(X,vI)|Option.none=>(T,uQ):=by
 unfold cH
 rw[p4.2 ⟨rfl,h⟩]
theorem F5(b:Bool):kP b≠[]:=by cases b<;>decide
theorem U2{T:Tk ByteArray}(h:dX Q T=true)(hS:∀t s,Q.isS t s=true→bL s≠[])(l:List UInt8):nI Q isL sense T l≠[]:=by
 unfold nI
 split
 ·exact EL _
 split
 ·exact EL _
 split
 ·split
  ·rename_i s hs
   exact hS _ _ (s6 Q h s (List.mem_of_getLast? hs)).1
  ·decide
 split
 ·exact EL _
 split
 ·decide
 split
 ·exact F5 _
 split
 ·exact F5 _
 split
 ·exact F5 _
 ·decide
theorem S4{T:Tk ByteArray}(h:dX Q T=true)(hS:∀t s,Q.isS t s=true→bL s≠[])(line:ByteArray):(cH Q isL sense T line).2≠[]:=by
 unfold cH
 cases hr:jN line with
 |none=>exact U2 Q isL sense h hS _
 |some d=>
  simp only
  cases hd:cX Q T d.1 d.2 with
  |none=>show uQ≠[];decide
  |some X=>show vI≠[];decide
def iA(p:Tk ByteArray×List (List UInt8))(line:ByteArray):Tk ByteArray×List (List UInt8):=((cH Q isL sense p.1 line).1,p.2++[(cH Q isL sense p.1 line).2])
def jS(T:Tk ByteArray)(lines:List ByteArray):Tk ByteArray×List (List UInt8):=lines.foldl (iA Q isL sense) (T,[])
theorem AP:∀(l:List ByteArray) (T:Tk ByteArray) (a b:List (List UInt8)),l.foldl (iA Q isL sense) (T,a++b)=((l.foldl (iA Q isL sense) (T,b)).1,a++(l.foldl (iA Q isL sense) (T,b)).2)
 |[],_,_,_=>rfl
 |d::l,T,a,b=>by
  show l.foldl (iA Q isL sense) ((cH Q isL sense T d).1,(a++b)++[(cH Q isL sense T d).2])=((l.foldl (iA Q isL sense) ((cH Q isL sense T d).1,b++[(cH Q isL sense T d).2])).1,a++(l.foldl (iA Q isL sense) ((cH Q isL sense T d).1,b++[(cH Q isL sense T d).2])).2)
  rw[List.append_assoc]
  exact AP l _ a _
theorem WT(a b:List ByteArray)(T:Tk ByteArray):jS Q isL sense T (a++b)=((jS Q isL sense (jS Q isL sense T a).1 b).1,(jS Q isL sense T a).2++(jS Q isL sense (jS Q isL sense T a).1 b).2):=by
 unfold jS
 rw[List.foldl_append]
 have:=AP Q isL sense b (a.foldl (iA Q isL sense) (T,[])).1 (a.foldl (iA Q isL sense) (T,[])).2 []
 rw[List.append_nil] at this
 exact this
theorem JV(hS:∀t s,Q.isS t s=true→bL s≠[]):∀(l:List ByteArray) {p:Tk ByteArray×List (List UInt8)},dX Q p.1=true→(∀x∈p.2,x≠[])→
  dX Q (l.foldl (iA Q isL sense) p).1=true∧(l.foldl (iA Q isL sense) p).1.things=p.1.things∧(∀x∈(l.foldl (iA Q isL sense) p).2,x≠[])∧(l.foldl (iA Q isL sense) p).2.length=p.2.length+l.length
 |[],_,h,hp=>⟨h,rfl,hp,rfl⟩
 |d::l,p,h,hp=>by
  obtain⟨h1,h2⟩:=CA Q isL sense d h
  obtain⟨a,b,c,e⟩:=JV hS l (p:=iA Q isL sense p d) h1 fun x hx=>by
   rcases List.mem_append.1 hx with hx|hx
   ·exact hp x hx
   ·rw[List.mem_singleton.1 hx];exact S4 Q isL sense h hS d
  refine⟨a,b.trans h2,c,e.trans ?_⟩
  show(p.2++[_]).length+l.length=_
  simp
  omega
theorem Y8{T:Tk ByteArray}(l:List ByteArray)(h:dX Q T=true)(hS:∀t s,Q.isS t s=true→bL s≠[]):
  dX Q (jS Q isL sense T l).1=true∧(jS Q isL sense T l).1.things=T.things∧(∀x∈(jS Q isL sense T l).2,x≠[])∧(jS Q isL sense T l).2.length=l.length:=by
 obtain⟨a,b,c,e⟩:=JV Q isL sense hS l (p:=(T,[])) h fun x hx=>by cases hx
 exact⟨a,b,c,by rw[show jS Q isL sense T l=l.foldl (iA Q isL sense) (T,[]) from rfl,e];simp⟩
theorem WR{T:Tk ByteArray}(h:dX Q T=true){s:ByteArray}(hs:T.now.op.getLast? =some s):cH Q isL sense T (cJ (gT++32::bL s))=(T,uQ):=by
 obtain⟨h1,h2⟩:=s6 Q h s (List.mem_of_getLast? hs)
 have hr:jN (cJ (gT++32::bL s))=Option.none:=by
  unfold jN
  rw[kO]
  unfold oY
  rw[if_neg (by simp[gT,uJ]),if_neg (by simp[gT,i1]),if_neg (by simp[gT,lH])]
  rfl
 unfold cH
 rw[hr]
 simp only
 rw[kO]
 unfold nI
 rw[if_neg (by simp[gT,FF]),if_neg (by simp[gT,K6]),if_neg (by simp[gT,E3]),if_neg (by simp[gT,L4]),FP (by decide)]
 simp only
 rw[r7,if_pos ⟨by trivial,h1⟩,h2]
 rfl
theorem YE(T:Tk ByteArray):cH Q isL sense T (cJ E3)=(T,match T.now.op.getLast? with|some s=>bL s|Option.none=>EE):=by
 unfold cH
 rw[show jN (cJ E3)=Option.none by decide]
 simp only
 rw[kO]
 unfold nI
 rw[if_neg (by decide),if_neg (by decide),if_pos rfl]
theorem Y2(T:Tk ByteArray):∀l:List (Int×ByteArray),(∀d∈l,bL (b8 d)≠[])→(l.map b8).foldl (fun T line=>(cH Q isL sense T line).1) T=(dU Q T l).1:=by
 intro l
 suffices∀(l:List (Int×ByteArray)) (p:Tk ByteArray×Nat),(∀d∈l,bL (b8 d)≠[])→(l.map b8).foldl (fun T line=>(cH Q isL sense T line).1) p.1=(l.foldl (cL Q) p).1 from this l (T,0)
 intro l
 induction l with
 |nil=>intro p _;rfl
 |cons d l ih=>
  intro p h
  have e:(cH Q isL sense p.1 (b8 d)).1=(cL Q p d).1:=by
   rw[M5 Q isL sense p.1 (h d (by simp))]
   unfold cL
   cases cX Q p.1 d.1 d.2<;>rfl
  show(l.map b8).foldl _ (cH Q isL sense p.1 (b8 d)).1=(l.foldl (cL Q) (cL Q p d)).1
  rw[e]
  exact ih (cL Q p d) fun x hx=>h x (by simp[hx])
end
end Go.Proofs.YtfhjcacfchkdpaaGreatDoor
namespace Go.Proofs.YtfhjcacfchkdpaaGreatDoor
open Go.RowKit
theorem uN:(Tryz.prog.info? 9).map (fun i=>(i.zero,i.size,i.bytes))=some (some (.string ByteArray.empty),1,16):=by kernel_rfl
def a7(w:World)(A:Option Addr)(xs:List ByteArray):Prop:=
 0<xs.length→∃b off,A=some ⟨b,off,none⟩∧b<w.heap.size∧∀i,i<xs.length→w.cell? ⟨b,off+i,none⟩=some (.string (xs.getD i ByteArray.empty))
theorem a7.nil(w:World)(A:Option Addr):a7 w A []:=fun h=>absurd h (by simp)
theorem a7.keep{w w' :World}{A:Option Addr}{xs:List ByteArray}(h:a7 w A xs)(hs:w.heap.size≤w'.heap.size)(hk:∀b,b<w.heap.size→(∀ad,A=some ad→ad.block=b→w'.heap[b]? =w.heap[b]?)):a7 w' A xs:=by
 intro hn
 obtain⟨b,off,rfl,hb,hc⟩:=h hn
 exact⟨b,off,rfl,by omega,fun i hi=>(World.cell?_of_block (hk b hb _ rfl rfl)).trans (hc i hi)⟩
theorem a7.below{w w' :World}{A:Option Addr}{xs:List ByteArray}(h:a7 w A xs)(hb:Below w.heap.size w w'):a7 w' A xs:=
 h.keep hb.size fun b hlt _ _ _=>hb.block b hlt
theorem a7.drewN{w:World}{A:Option Addr}{xs:List ByteArray}(h:a7 w A xs)(n:Nat):a7 (w.drewN n) A xs:=h
theorem a7.alloc{w:World}{A:Option Addr}{xs:List ByteArray}(h:a7 w A xs)(o:Obj):a7 (w.alloc o) A xs:=
 h.below ((Below.refl _ _).alloc (Nat.le_refl _) o)
theorem a7.grown{w w' :World}{A:Option Addr}{xs:List ByteArray}{row:Option Nat}(h:a7 w A xs)(hg:w.grownBy w' row)(hr:∀ad,A=some ad→some ad.block≠row):a7 w' A xs:=
 h.keep hg.size fun b hlt ad ha hab=>hg.block b hlt (by rw[←hab];exact hr ad ha)
theorem a7.drop{w:World}{A:Option Addr}{xs:List ByteArray}(h:a7 w A xs){j c:Nat}(hc:xs.length≤c):
  a7 w (if c=j then A else A.map (·.add j)) (xs.drop j):=by
 intro hn
 rw[List.length_drop] at hn
 obtain⟨b,off,rfl,hb,hcell⟩:=h (by omega)
 rw[if_neg (by omega)]
 refine⟨b,off+j,by simp only[Option.map_some,Addr.add];split<;>simp_all,hb,fun i hi=> ?_⟩
 rw[List.length_drop] at hi
 rw[Nat.add_assoc,hcell (j+i) (by omega)]
 simp[List.getElem?_drop]
theorem a7.from_{w:World}{b off:Nat}{xs:List ByteArray}(h:a7 w (some ⟨b,off,none⟩) xs)(j:Nat):a7 w (some ⟨b,off+j,none⟩) (xs.drop j):=by
 intro hn
 rw[List.length_drop] at hn
 obtain⟨b',off',hA,hb,hcell⟩:=h (by omega)
 cases hA
 refine⟨b,off+j,rfl,hb,fun i hi=> ?_⟩
 rw[List.length_drop] at hi
 rw[Nat.add_assoc,hcell (j+i) (by omega)]
 simp[List.getElem?_drop]
theorem a7.none_{w:World}{A:Option Addr}{xs:List ByteArray}(h:xs.length=0):a7 w A xs:=fun hn=>by omega
theorem a7.take{w:World}{A:Option Addr}{xs:List ByteArray}(h:a7 w A xs)(j:Nat):a7 w A (xs.take j):=by
 intro hn
 rw[List.length_take] at hn
 obtain⟨b,off,rfl,hb,hcell⟩:=h (by omega)
 refine⟨b,off,rfl,hb,fun i hi=> ?_⟩
 rw[List.length_take] at hi
 rw[hcell i (by omega)]
 simp[show i<j by omega]
def aK(w:World)(base:Nat)(v:Value)(xs:List ByteArray):Prop:=w.ownsRow base 9 1 v xs.length (xs.map (Value.string))
theorem aK.form{w:World}{base:Nat}{v:Value}{xs:List ByteArray}(h:aK w base v xs):
  ∃A c,v= .slice A xs.length c∧xs.length≤c∧c≤maxLen∧a7 w A xs∧(∀ad,A=some ad→base≤ad.block∧ad.block<w.heap.size):=by
 have hcells:=fun g=>World.ownsRow.cells h (g:=g)
 rcases h.2 with⟨rfl,hl⟩|⟨g,cap,cur,rfl,hb,hg,hn,hm,_,_⟩
 ·exact⟨none,0,by rw[hl],by omega,by simp[maxLen],fun hp=>absurd hp (by omega),fun ad h=>by cases h⟩
 ·have hlt:g<w.heap.size:=(Array.getElem?_eq_some_iff.1 hg).1
  refine⟨some ⟨g,0,none⟩,cap,rfl,hn,hm,fun hp=>⟨g,0,rfl,hlt,fun i hi=> ?_⟩,fun ad h=>by cases h;exact⟨hb,hlt⟩⟩
  have hi2:(xs.map (Value.string))[i]? =some (.string (xs.getD i ByteArray.empty)):=by simp[hi]
  have:=hcells g rfl i _ hi2
  have e:(⟨g,0,none⟩:Addr).add i=⟨g,0+i,none⟩:=by unfold Addr.add;split<;>simp_all
  rw[e] at this
  exact this
theorem aK.kept{w w' :World}{base:Nat}{v:Value}{xs:List ByteArray}(h:aK w base v xs){row:Option Nat}(hg:w.grownBy w' row)(hne:v.ownBlock=none∨v.ownBlock≠row):aK w' base v xs:=
 World.ownsRow.kept h hg hne
theorem aK.below{w w' :World}{base:Nat}{v:Value}{xs:List ByteArray}(h:aK w base v xs)(hb:Below w.heap.size w w'):aK w' base v xs:=
 World.ownsRow.kept (row:=none) h ⟨hb.os,hb.tape,hb.output,hb.size,fun k hk _=>hb.block k hk⟩ (by cases v.ownBlock<;>simp)
theorem aK.base{w:World}{base base' :Nat}{v:Value}{xs:List ByteArray}(h:aK w base v xs)(hb:base'≤base):aK w base' v xs:=by
 refine⟨h.1,?_⟩
 rcases h.2 with h|⟨g,cap,cur,h1,h2,h3⟩
 ·exact .inl h
 ·exact .inr ⟨g,cap,cur,h1,by omega,h3⟩
theorem aK.nil(w:World)(base:Nat):aK w base (.slice none 0 0) []:=World.ownsRow_nil w base _ 1
theorem aK.lit(w:World)(base:Nat)(xs:List ByteArray)(hb:base≤w.heap.size)(hm:xs.length≤maxLen):
  aK (w.alloc (.cells (xs.map (Value.string)).toArray 9)) base (.slice (some ⟨w.heap.size,0,none⟩) xs.length xs.length) xs:=by
 have h:=World.ownsRow_lit (base:=base) (e:=9) (size:=1) w (xs.map (Value.string)).toArray xs.length hb hm (by simp)
 simpa [aK] using h
theorem AL{W:World}{ops:Array Oper}{rest:List Oper}{o:Oper}{a:Act}{Q:Exit→Act→World→Prop}(hgd:o.guard=none)(s x:Operand)
  (ho:o.op= .call {callee:= .builtin .append,args:= #[s,x],argTypes:= #[28,28]}) (base:Nat) (v:Value) (xs:List ByteArray) (hs:a.eval s=v) (hown:aK W base v xs)
  (y:ByteArray) (hx:a.eval x= .slice (some ⟨W.heap.size,0,none⟩) 1 1) (hl:xs.length≤1048576) (hb:base≤W.heap.size)
  (h:∀v' w',aK w' base v' (xs++[y])→(W.alloc (.cells #[.string y] 9)).grownBy w' v.ownBlock→wpList Tryz.prog ops Q rest (a.put o.dst v') w'):
  wpList Tryz.prog ops Q (o::rest) a (W.alloc (.cells #[.string y] 9)):=by
 obtain⟨i0,hi0,hz0,hz1,hz2⟩:=info_parts uN
 refine wpList_append_own _ hgd s x 28 ho base 9 i0 (.string ByteArray.empty) 1 16 Tryz.underlying28 hi0 hz0 hz1 hz2 rfl (by decide) v xs.length (xs.map (Value.string)) hs (World.ownsRow.alloc hown _)
  ⟨W.heap.size,0,none⟩ 1 1 [.string y] hx rfl (cell_one_new _ _ _) (fun u hu=>by rw[List.mem_singleton] at hu;subst hu;rfl) (by simp only[maxLen];omega) (by omega) (by rw[World.size_alloc];omega) ?_
 intro v' w' h1 h2 _
 refine h v' w' ?_ h2
 unfold aK
 simpa using h1
theorem EC{B:Nat}{a W w' :World}{base:Nat}{v:Value}{xs:List ByteArray}{o:Obj}(h:Below B a W)(hB:B≤W.heap.size)(hown:aK W base v xs)(hbase:B≤base)(hg:(W.alloc o).grownBy w' v.ownBlock):Below B a w' :=
 (h.alloc hB o).grown hg (by simp;omega) fun k e=>by have:=(World.ownsRow.lt hown k e).1;omega
theorem B4{B:Nat}{a W w' :World}{base:Nat}{v:Value}{xs:List ByteArray}(h:Below B a W)(hB:B≤W.heap.size)(hown:aK W base v xs)(hbase:B≤base)(hg:W.grownBy w' v.ownBlock):Below B a w' :=
 h.grown hg hB fun k e=>by have:=(World.ownsRow.lt hown k e).1;omega
theorem a7.elem{w:World}{A:Option Addr}{xs:List ByteArray}(h:a7 w A xs){i:Nat}(hi:i<xs.length):
  ∃b off x,A=some ⟨b,off,none⟩∧w.cell? ⟨b,off+i,none⟩=some (.string x)∧Hid (xs[i]? =some x)∧Hid (b<w.heap.size):=by
 obtain⟨b,off,hA,hb,hc⟩:=h (by omega)
 exact⟨b,off,_,hA,hc i hi,by show _=_;simp[hi],hb⟩
theorem mT{xs:List ByteArray}{i:Nat}{x:ByteArray}(h:Hid (xs[i]? =some x)):x∈xs:=List.mem_of_getElem? h.out
theorem RD{xs:List ByteArray}{i:Nat}{x:ByteArray}(h:Hid (xs[i]? =some x)):i<xs.length:=(List.getElem?_eq_some_iff.1 h.out).1
theorem nN{xs:List ByteArray}{i:Nat}{x:ByteArray}(h:Hid (xs[i]? =some x)):xs.take (i+1)=xs.take i++[x]:=by
 rw[List.take_succ_eq_append_getElem (RD h),(List.getElem?_eq_some_iff.1 h.out).2]
def bQ(vs:List (Int×Value)):List Value:=vs.flatMap fun v=>[.int .i64 v.1,v.2]
theorem nO(vs:List (Int×Value)):(bQ vs).length=vs.length*2:=by
 unfold bQ
 induction vs with
 |nil=>rfl
 |cons v vs ih=>rw[List.flatMap_cons,List.length_append,ih,List.length_cons];simp;omega
theorem qH(vs us:List (Int×Value)):bQ (vs++us)=bQ vs++bQ us:=by unfold bQ;rw[List.flatMap_append]
theorem gO:∀(vs:List (Int×Value)) (i:Nat) (v:Int×Value),vs[i]? =some v→(bQ vs)[i*2]? =some (.int .i64 v.1)∧(bQ vs)[i*2+1]? =some v.2
 |[],i,v,h=>by simp at h
 |u::vs,0,v,h=>by
  simp only[List.getElem?_cons_zero,Option.some.injEq] at h
  subst h
  exact⟨rfl,rfl⟩
 |u::vs,i+1,v,h=>by
  rw[List.getElem?_cons_succ] at h
  have ih:=gO vs i v h
  have e:bQ (u::vs)= .int .i64 u.1::u.2::bQ vs:=rfl
  rw[e,show(i+1)*2=i*2+1+1 by omega,show i*2+1+1+1=(i*2+1)+1+1 by omega]
  simpa using ih
def b6(w:World)(A:Option Addr)(xs:List (St ByteArray)):Prop:=
 0<xs.length→∃b off,A=some ⟨b,off,none⟩∧b<w.heap.size∧∀i x,xs[i]? =some x→∃Ai ci,w.cell? ⟨b,off+i*2,none⟩=some (.int .i64 x.known)∧w.cell? ⟨b,off+i*2+1,none⟩=some (.slice Ai x.op.length ci)∧
  x.op.length≤ci∧ci≤maxLen∧a7 w Ai x.op
theorem b6.nil(w:World)(A:Option Addr):b6 w A []:=fun h=>absurd h (by simp)
theorem b6.below{w w' :World}{A:Option Addr}{xs:List (St ByteArray)}(h:b6 w A xs)(hb:Below w.heap.size w w'):b6 w' A xs:=by
 intro hn
 obtain⟨b,off,rfl,hlt,hc⟩:=h hn
 refine⟨b,off,rfl,Nat.lt_of_lt_of_le hlt hb.size,fun i x hx=> ?_⟩
 obtain⟨Ai,ci,h1,h2,h3,h4,h5⟩:=hc i x hx
 exact⟨Ai,ci,(World.cell?_of_block (hb.block b hlt)).trans h1,(World.cell?_of_block (hb.block b hlt)).trans h2,h3,h4,h5.below hb⟩
theorem b6.drewN{w:World}{A:Option Addr}{xs:List (St ByteArray)}(h:b6 w A xs)(n:Nat):b6 (w.drewN n) A xs:=by
 intro hn
 obtain⟨b,off,rfl,hlt,hc⟩:=h hn
 exact⟨b,off,rfl,hlt,fun i x hx=>by
  obtain⟨Ai,ci,h1,h2,h3,h4,h5⟩:=hc i x hx
  exact⟨Ai,ci,h1,h2,h3,h4,h5.drewN n⟩⟩
theorem b6.elem{w:World}{A:Option Addr}{xs:List (St ByteArray)}(h:b6 w A xs){i:Nat}(hi:i<xs.length):
  ∃b off Ai ci x,A=some ⟨b,off,none⟩∧w.cell? ⟨b,off+i*2,none⟩=some (.int .i64 x.known)∧w.cell? ⟨b,off+i*2+1,none⟩=some (.slice Ai x.op.length ci)∧x.op.length≤ci∧ci≤maxLen∧Hid (xs[i]? =some x)∧Hid (a7 w Ai x.op)∧Hid (b<w.heap.size):=by
 obtain⟨b,off,rfl,hlt,hc⟩:=h (by omega)
 obtain⟨Ai,ci,h1,h2,h3,h4,h5⟩:=hc i xs[i] (List.getElem?_eq_getElem hi)
 exact⟨b,off,Ai,ci,xs[i],rfl,h1,h2,h3,h4,List.getElem?_eq_getElem hi,h5,hlt⟩
structure EH (w:World) (base:Nat) (o:Option Nat) (vs:List (Int×Value)) (xs:List (St ByteArray)):Prop where
 len:vs.length=xs.length
 at_:∀(i:Nat) (x:St ByteArray),xs[i]? =some x→∃v,vs[i]? =some (x.known,v)∧aK w base v x.op∧(v.ownBlock=none∨v.ownBlock≠o)
structure aY (e:TypeId) (w:World) (base:Nat) (v:Value) (vs:List (Int×Value)) (xs:List (St ByteArray)):Prop where
 row:w.ownsRow base e 2 v vs.length (bQ vs)
 sees:EH w base v.ownBlock vs xs
theorem aY.nil(e:TypeId)(w:World)(base:Nat):aY e w base (.slice none 0 0) [] []:=⟨World.ownsRow_nil w base e 2,rfl,fun i x h=>by simp at h⟩
theorem EH.below{w w' :World}{base:Nat}{o:Option Nat}{vs:List (Int×Value)}{xs:List (St ByteArray)}(h:EH w base o vs xs)(hb:Below w.heap.size w w'):EH w' base o vs xs:=
 ⟨h.len,fun i x hx=>by obtain⟨v,h1,h2,h3⟩:=h.at_ i x hx;exact⟨v,h1,h2.below hb,h3⟩⟩
theorem aY.below{e:TypeId}{w w' :World}{base:Nat}{v:Value}{vs:List (Int×Value)}{xs:List (St ByteArray)}(h:aY e w base v vs xs)(hb:Below w.heap.size w w'):aY e w' base v vs xs:=
 ⟨World.ownsRow.kept (row:=none) h.row ⟨hb.os,hb.tape,hb.output,hb.size,fun k hk _=>hb.block k hk⟩ (by cases v.ownBlock<;>simp),h.sees.below hb⟩
theorem aY.drewN{e:TypeId}{w:World}{base:Nat}{v:Value}{vs:List (Int×Value)}{xs:List (St ByteArray)}(h:aY e w base v vs xs)(n:Nat):aY e (w.drewN n) base v vs xs:=
 ⟨h.row,h.sees.len,fun i x hx=>by obtain⟨v,h1,h2,h3⟩:=h.sees.at_ i x hx;exact⟨v,h1,h2,h3⟩⟩
theorem aY.base{e:TypeId}{w:World}{base base' :Nat}{v:Value}{vs:List (Int×Value)}{xs:List (St ByteArray)}(h:aY e w base v vs xs)(hb:base'≤base):aY e w base' v vs xs:=by
 refine⟨⟨h.row.1,?_⟩,h.sees.len,fun i x hx=> ?_⟩
 ·rcases h.row.2 with h|⟨g,cap,cur,h1,h2,h3⟩
  ·exact .inl h
  ·exact .inr ⟨g,cap,cur,h1,by omega,h3⟩
 ·obtain⟨v,h1,h2,h3⟩:=h.sees.at_ i x hx
  exact⟨v,h1,h2.base hb,h3⟩
theorem aY.form{e:TypeId}{w:World}{base:Nat}{v:Value}{vs:List (Int×Value)}{xs:List (St ByteArray)}(h:aY e w base v vs xs):
  ∃A c,v= .slice A xs.length c∧xs.length≤c∧c≤maxLen∧b6 w A xs∧∀ad,A=some ad→base≤ad.block∧ad.block<w.heap.size:=by
 have hcells:=fun g=>World.ownsRow.cells h.row (g:=g)
 rcases h.row.2 with⟨rfl,hl⟩|⟨g,cap,cur,rfl,hb,hg,hn,hm,_,_⟩
 ·have hl2:xs.length=0:=by rw[←h.sees.len];exact hl
  exact⟨none,0,by rw[hl2],by omega,by simp[maxLen],fun hp=>absurd hp (by omega),fun ad h=>by cases h⟩
 ·have hlt:g<w.heap.size:=(Array.getElem?_eq_some_iff.1 hg).1
  refine⟨some ⟨g,0,none⟩,cap,by rw[h.sees.len],by rw[←h.sees.len];exact hn,hm,fun hp=>⟨g,0,rfl,hlt,fun i x hx=> ?_⟩,fun ad h=>by cases h;exact⟨hb,hlt⟩⟩
  obtain⟨v,h1,h2,_⟩:=h.sees.at_ i x hx
  obtain⟨g1,g2⟩:=gO vs i _ h1
  obtain⟨Ai,ci,rfl,h3,h4,h5,_⟩:=h2.form
  have e1:=hcells g rfl _ _ g1
  have e2:=hcells g rfl _ _ g2
  have ea:∀j,(⟨g,0,none⟩:Addr).add j=⟨g,0+j,none⟩:=fun j=>by unfold Addr.add;split<;>simp_all
  rw[ea] at e1 e2
  rw[←Nat.add_assoc] at e2
  exact⟨Ai,ci,e1,e2,h3,h4,h5⟩
theorem aY.kept{e:TypeId}{w w' :World}{base:Nat}{v:Value}{vs:List (Int×Value)}{xs:List (St ByteArray)}(h:aY e w base v vs xs){row:Option Nat}(hg:w.grownBy w' row)(hne:v.ownBlock=none∨v.ownBlock≠row)(hne2:∀u∈vs,u.2.ownBlock=none∨u.2.ownBlock≠row):aY e w' base v vs xs:=
 ⟨World.ownsRow.kept h.row hg hne,h.sees.len,fun i x hx=>by
  obtain⟨u,h1,h2,h3⟩:=h.sees.at_ i x hx
  exact⟨u,h1,h2.kept hg (hne2 _ (List.mem_of_getElem? h1)),h3⟩⟩
theorem aY.other{e:TypeId}{w w' :World}{base:Nat}{v:Value}{vs:List (Int×Value)}{xs:List (St ByteArray)}(h:aY e w base v vs xs){g:Nat}(hg:w.grownBy w' (some g))(hlt:g<base):aY e w' base v vs xs:=by
 have key:∀k:Option Nat,(∀j,k=some j→base≤j)→k=none∨k≠some g:=fun k hk=>by
  cases k with
  |none=>exact .inl rfl
  |some j=>right;intro e;have:=hk j rfl;have:=Option.some.inj e;omega
 have hsome:∀(i:Nat) (u:Int×Value),vs[i]? =some u→u.2.ownBlock=none∨u.2.ownBlock≠some g:=fun i u hu=>by
  have hil:i<xs.length:=by rw[←h.sees.len];exact(List.getElem?_eq_some_iff.1 hu).1
  obtain⟨v2,h1,h2,_⟩:=h.sees.at_ i xs[i] (List.getElem?_eq_getElem hil)
  rw[hu] at h1
  cases h1
  exact key _ fun j hj=>(World.ownsRow.lt h2 j hj).1
 refine h.kept hg (key _ fun j hj=>(World.ownsRow.lt h.row j hj).1) fun u hu=> ?_
 obtain⟨i,hi⟩:=List.mem_iff_getElem?.1 hu
 exact hsome i u hi
def aH:QR ByteArray:=⟨fun t s=>(fC t s).isSome,fun t k s=>aF k (gM t s),fun t s=>dO t s,ByteArray.empty⟩
def sR(t:Int)(s:ByteArray):Bool:=cY t s
def p5(t k:Int)(s:ByteArray):Bool:=(eJ t k s).isSome
abbrev aL:=Tk ByteArray
def dP(T:aL):Bool:=dX aH T
def gJ(T:aL)(k:Int)(s:ByteArray):Option aL:=cX aH T k s
def kS(T:aL)(l:ByteArray):aL×List UInt8:=cH aH sR p5 T l
def lW:aL:=⟨0,⟨0,[]⟩,[]⟩
theorem iV{t:Int}{s:ByteArray}:aH.isS t s=true↔∃x,fC t s=some x:=by
 show(fC t s).isSome=true↔_
 rw[Option.isSome_iff_exists]
theorem RA(x:bD):cA x≠[]:=by cases x<;>simp[cA]
theorem VL(t:Int)(s:ByteArray)(h:aH.isS t s=true):bL s≠[]:=by
 obtain⟨x,hx⟩:=iV.1 h
 obtain⟨_,_,_,_,hb⟩:=jQ hx
 intro hn
 apply RA x
 rw[←hb]
 unfold aG
 rw[show s.data.toList=bL s from rfl,hn];rfl
theorem vV{t k:Int}{s:ByteArray}(hS:aH.isS t s=true)(hk:aO t k=true):cF t (gM t s) k=aH.sett t k s:=by
 obtain⟨x,hx⟩:=iV.1 hS
 obtain⟨_,_,h0,ha,_⟩:=aZ hk
 exact fJ (p8 hx) h0 ha
theorem lT{x y:ByteArray}(h:x≠y):(x.toList==y.toList)=false:=by
 rw[ByteArray.toList_eq,ByteArray.toList_eq,beq_eq_false_iff_ne]
 intro e
 exact h (ByteArray.ext (Array.toList_inj.mp e))
theorem sW(x:ByteArray):(x.toList==x.toList)=true:=by simp
theorem G7(b:UInt8):kX b=(decide ((32:Int)≤(b.toNat:Int))&&decide ((b.toNat:Int)≤126)):=by
 unfold kX
 have h:∀c:UInt8,(c≤b↔c.toNat≤b.toNat)∧(b≤c↔b.toNat≤c.toNat):=fun c=>⟨UInt8.le_iff_toNat_le,UInt8.le_iff_toNat_le⟩
 rw[Bool.eq_iff_iff]
 simp only[Bool.and_eq_true,decide_eq_true_eq,(h 32).1,(h 126).2]
 have e1:(32:UInt8).toNat=32:=rfl
 have e2:(126:UInt8).toNat=126:=rfl
 omega
theorem GD{s:ByteArray}{k:Nat}(h:k<s.size):((bL s).take (k+1)).all kX=(((bL s).take k).all kX&&kX s[k]):=by
 rw[List.take_succ_eq_append_getElem (by rw[gF];exact h),List.all_append]
 simp[bL];rfl
theorem S3(s:ByteArray)(w:World)(hs:s.size≤1048576):
  Calls Tryz.prog 108 #[.string s] w fun e w' =>e= .returned (.bool (dC (bL s)))∧w=w' :=by
 obtain⟨r,HR⟩:∃r,Hid (dC (bL s)=r):=⟨_,rfl⟩
 rw[HR.out]
 have HNO:Hid (∀k,(h:k<s.size)→kX s[k]=false→r=false):=fun k h hi=>by
  rw[←HR.out]
  unfold dC
  have:(bL s).all kX=false:=by
   rw[List.all_eq_false]
   exact⟨s[k],by unfold bL;exact Array.getElem_mem_toList _,by rw[hi];simp⟩
  rw[this,Bool.and_false]
 have HEND:Hid (((bL s).take s.size).all kX=true→r=decide (0<s.size)):=fun h=>by
  rw[←gF,List.take_length] at h
  rw[←HR.out]
  unfold dC
  rw[h,Bool.and_true,←gF]
  cases bL s<;>simp
 go_enter Tryz.func108,Tryz.ntmps108
 go_wp2
 go_loop [3] (fun i=>∃k:Nat,k≤s.size∧i= .int .i64 k∧Hid (((bL s).take k).all kX=true)) (fun i=>s.size-(Go.RowKit.intOf i).toNat)
 case atStart=>exact⟨0,Nat.zero_le _,rfl,rfl⟩
 case round=>
  obtain⟨k,hk,rfl,hall⟩:=hrel
  by_cases hlt:k<s.size
  ·have hd:(k:Int)<(s.size:Int):=by omega
   have hd0:(0:Int)≤(k:Int):=by omega
   have hn:=GD hlt
   rw[hall.out,Bool.true_and] at hn
   have hib:=G7 s[k]
   have HNK:=HNO.out k hlt
   obtain⟨c,hc⟩:∃c,s[k].toNat=c:=⟨_,rfl⟩
   rw[hc] at hib
   have hc256:c<256:=by rw[←hc];exact UInt8.toNat_lt _
   by_cases h32:c<32
   ·have hF:Hid (r=false):=HNK (by rw[hib,decide_eq_false (by omega:¬(32:Int)≤(c:Int))];rfl)
    have hci:decide ((c:Int)<32)=true:=decide_eq_true (by omega)
    clear hn hib HNK
    go_wp2
    go_ret
    exact⟨aM hF.out.symm,rfl⟩
   ·have hci:decide ((c:Int)<32)=false:=decide_eq_false (by omega)
    by_cases h126:126<c
    ·have hF:Hid (r=false):=HNK (by rw[hib,decide_eq_false (by omega:¬(c:Int)≤126),Bool.and_false])
     have hci2:decide ((126:Int)<(c:Int))=true:=decide_eq_true (by omega)
     clear hn hib HNK
     go_wp2
     go_ret
     exact⟨aM hF.out.symm,rfl⟩
    ·have hci2:decide ((126:Int)<(c:Int))=false:=decide_eq_false (by omega)
     have HT:Hid (((bL s).take (k+1)).all kX=true):=by
      unfold Hid
      rw[hn,hib,decide_eq_true (by omega:(32:Int)≤(c:Int)),decide_eq_true (by omega:(c:Int)≤126)];rfl
     clear hn hib HNK
     go_wp2
     go_round
     case rel=>exact⟨k+1,by omega,by go_num,HT⟩
     case measure=>simp[Go.RowKit.intOf];omega
  ·obtain rfl:k=s.size:=by omega
   have HE:=zH (HEND.out hall.out)
   go_wp2
   go_ret
   exact⟨aM (by rw[HE.out]),rfl⟩
theorem lD(a b:ByteArray):bL (a++b)=bL a++bL b:=by unfold bL;rw[ByteArray.data_append,Array.toList_append]
theorem MZ{s:ByteArray}(h:dC (bL s)=true):b8 (0,s)=(⟨#[116,101,108,108]⟩++⟨#[32]⟩)++s:=gI (by
 rw[lD,lD]
 unfold b8 eV
 rw[kO,if_pos ⟨rfl,h⟩]
 rfl)
theorem QL{s:ByteArray}(h:dC (bL s)=true):b8 (1,s)=(⟨#[97,115,107]⟩++⟨#[32]⟩)++s:=gI (by
 rw[lD,lD]
 unfold b8 eV
 rw[kO,if_neg (fun h=>absurd (show(1:Int)=0 from h.1) (by decide)),if_pos ⟨rfl,h⟩]
 rfl)
theorem CP:b8 (2,⟨#[]⟩)=⟨#[98,97,99,107]⟩:=by decide
theorem mF{k:Int}{s:ByteArray}(h1:¬((k=0∨k=1)∧dC (bL s)=true))(h2:¬(k=2∧bL s=[])):b8 (k,s)=⟨#[]⟩:=by
 unfold b8 eV
 rw[if_neg fun h=>h1 ⟨.inl h.1,h.2⟩,if_neg fun h=>h1 ⟨.inr h.1,h.2⟩,if_neg fun h=>h2 (by injection h with a b;exact⟨a,b⟩)]
 rfl
def nZ(w:World)(B:Nat)(k:Int)(s:ByteArray):Prop:=w.heap[B]? =some (.cells #[.int .i64 k,.string s] 41 (0,0))
theorem nZ.cells{w:World}{B:Nat}{k:Int}{s:ByteArray}(h:nZ w B k s):w.cell? ⟨B,0,none⟩=some (.int .i64 k)∧w.cell? ⟨B,1,none⟩=some (.string s):=by
 constructor<;>simp[World.cell?,show w.heap[B]? =_ from h]
theorem nZ.new(w:World)(k:Int)(s:ByteArray):nZ (w.alloc (.cells #[.int .i64 k,.string s] 41)) w.heap.size k s:=World.alloc_heap_new w _
theorem oL(k:Int)(s:ByteArray)(w:World)(hs:s.size≤1048576):
  Calls Tryz.prog 84 #[.agg #[.int .i64 k,.string s]] w fun e w' =>e= .returned (.string (b8 (k,s)))∧Below w.heap.size w w' :=by
 obtain⟨W,hW⟩:∃W,w.alloc (.cells #[.int .i64 k,.string s] 41)=W:=⟨_,rfl⟩
 have hD:nZ W w.heap.size k s:=by rw[←hW];exact nZ.new w k s
 have HB:Hid (Below w.heap.size w W):=by rw[←hW];exact(Below.refl _ _).alloc (Nat.le_refl _) _
 obtain⟨hc0,hc1⟩:=nZ.cells (show nZ (w.alloc (.cells #[.int .i64 k,.string s] 41)) w.heap.size k s by rw[hW];exact hD)
 have HW:=zH hW
 obtain⟨p,HP⟩:∃p,Hid (dC (bL s)=p):=⟨_,rfl⟩
 have HPL:Hid (∀w:World,Calls Tryz.prog 108 #[.string s] w fun e w' =>e= .returned (.bool p)∧w=w'):=fun w=>by
  have:=S3 s w hs
  rw[HP.out] at this;exact this
 clear hD hW
 by_cases h01:0≤k∧k≤1
 ·cases p
  ·have HN:Hid (b8 (k,s)=⟨#[]⟩):=mF (fun h=>by rw[HP.out] at h;exact absurd h.2 (by decide)) (by omega)
   rw[HN.out]
   have hk2:(k==2)=false:=by rw[beq_eq_false_iff_ne];omega
   go_enter Tryz.func84,Tryz.ntmps84
   go_wp2_with (first
    |(go_at_call 98;refine(hV _ _ _ _ h01.1 h01.2).mono ?_;rintro e w' ⟨rfl,rfl⟩)
    |(go_at_call 108;refine(HPL.out _).mono ?_;rintro e w' ⟨rfl,rfl⟩))
   go_ret
   exact⟨rfl,by rw[HW.out];exact HB.out⟩
  ·have HPT:dC (bL s)=true:=HP.out
   have hz5:(9223372036854775807<5+s.size)=False:=by simp;omega
   have hz5b:(9223372036854775807<4+s.size)=False:=by simp;omega
   have hk:k=0∨k=1:=by omega
   rcases hk with rfl|rfl
   ·rw[MZ HPT]
    clear HPT
    go_enter Tryz.func84,Tryz.ntmps84
    go_upto_region 2 with(first
     |(go_at_call 98;refine(hV _ _ _ _ h01.1 h01.2).mono ?_;rintro e w' ⟨rfl,rfl⟩)
     |(go_at_call 108;refine(HPL.out _).mono ?_;rintro e w' ⟨rfl,rfl⟩))
    go_region
    all_goals
     go_wp2_with fail
     go_ret
     exact⟨rfl,by rw[HW.out];exact(HB.out.alloc HB.out.size _).drew⟩
   ·rw[QL HPT]
    clear HPT
    go_enter Tryz.func84,Tryz.ntmps84
    go_upto_region 2 with(first
     |(go_at_call 98;refine(hV _ _ _ _ h01.1 h01.2).mono ?_;rintro e w' ⟨rfl,rfl⟩)
     |(go_at_call 108;refine(HPL.out _).mono ?_;rintro e w' ⟨rfl,rfl⟩))
    go_region
    all_goals
     go_wp2_with fail
     go_ret
     exact⟨rfl,by rw[HW.out];exact(HB.out.alloc HB.out.size _).drew⟩
 ·have h01' :k<0∨1<k:=by omega
  by_cases h2:k=2∧s=⟨#[]⟩
  ·obtain⟨rfl,rfl⟩:=h2
   rw[CP]
   go_enter Tryz.func84,Tryz.ntmps84
   go_wp2_with (first
    |(go_at_call 98;refine(n4 _ _ _ _ h01').mono ?_;rintro e w' ⟨rfl,rfl⟩))
   go_ret
   exact⟨rfl,by rw[HW.out];exact HB.out⟩
  ·have HN:Hid (b8 (k,s)=⟨#[]⟩):=mF (fun h=>by omega) (fun h=>h2 ⟨h.1,gI h.2⟩)
   rw[HN.out]
   by_cases hk2:k=2
   ·subst hk2
    have hne:s≠⟨#[]⟩:=fun e=>h2 ⟨rfl,e⟩
    have hn1:(s.toList==(ByteArray.mk #[]).toList)=false:=lT hne
    have hn2:s.toList.isEmpty=false:=by
     rw[ByteArray.toList_eq,List.isEmpty_eq_false_iff]
     intro e
     exact hne (ByteArray.ext (Array.toList_inj.mp e))
    have hn3:(s.toList==[])=false:=by rw[beq_eq_false_iff_ne];intro e;rw[e] at hn2;cases hn2
    clear h2 hne
    go_enter Tryz.func84,Tryz.ntmps84
    go_wp2_with (first
     |(go_at_call 98;refine(n4 _ _ _ _ h01').mono ?_;rintro e w' ⟨rfl,rfl⟩))
    go_ret
    exact⟨rfl,by rw[HW.out];exact HB.out⟩
   ·have hkb:(k==2)=false:=by rw[beq_eq_false_iff_ne];exact hk2
    clear h2 hk2
    go_enter Tryz.func84,Tryz.ntmps84
    go_wp2_with (first
     |(go_at_call 98;refine(n4 _ _ _ _ h01').mono ?_;rintro e w' ⟨rfl,rfl⟩))
    go_ret
    exact⟨rfl,by rw[HW.out];exact HB.out⟩
end Go.Proofs.YtfhjcacfchkdpaaGreatDoor
