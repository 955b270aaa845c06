/-
  What the proofs of this seat's statements share (TlkP, TlkR, TlkX, TlkD).
-/
import Derived.Deep.RegionHeld3
import Derived.Test.YtfhjcacfchkdpaaGreatDoorU21
set_option maxRecDepth 100000
set_option maxHeartbeats 32000000
namespace Go.Proofs.YtfhjcacfchkdpaaGreatDoor
open Go.RowKit
theorem Q0{t k:Int}{A:Option Addr}{n c B:Nat}{xs:List ByteArray}{w:World}{cs:List Value}{b:Bool}(hb:Hid (bC aH t ⟨k,xs⟩=b))(hn:n=xs.length)(hl:n≤1048576)(hnc:n≤c)(hA:a7 w A xs)(hs:∀s∈xs,s.size≤1048576)(hB:aD w B 33 (.int .i64 t::cs)):
  Calls Tryz.prog 72 #[.agg #[.int .i64 k,.slice A n c],.pointer (some ⟨B,0,none⟩)] w fun e w' =>e= .returned (.bool (!b))∧Below w.heap.size w w' :=by
 have HB0:Hid (Below w.heap.size w (w.alloc (.cells #[.int .i64 k,.slice A n c] 30))):=(Below.refl _ _).alloc (Nat.le_refl _) _
 have hc0:=(hB.alloc (.cells #[.int .i64 k,.slice A n c] 30)).cell (i:=0) (v:= .int .i64 t) rfl
 have hc1:=hB.cell (i:=0) (v:= .int .i64 t) rfl
 have HST:Hid (∀W:World,Below w.heap.size w W→Calls Tryz.prog 70 #[.int .i64 t,.agg #[.int .i64 k,.slice A n c]] W fun e w' =>e= .returned (.bool b)∧Below W.heap.size W w'):=fun W h=>by
  have:=GI t k A n c xs W hn hl hnc (hA.below h) hs
  rw[hb.out] at this;exact this
 clear hA hs hn hl hB hnc
 go_enter Tryz.func72,Tryz.ntmps72
 go_wp2_with fail
 refine(HST.out _ HB0.out).mono ?_
 rintro e w1 ⟨rfl,hb⟩
 have HB1:=zH (aA HB0.out hb)
 clear hb hc0 hc1
 go_wp2_with fail
 go_ret
 exact⟨rfl,HB1.out⟩
def n0(t:Int)(xs:List (St ByteArray)):Bool:=xs.any fun x=> !bC aH t x
theorem T3{t:Int}{A:Option Addr}{n c B:Nat}{xs:List (St ByteArray)}{w:World}{cs:List Value}(hn:n=xs.length)(hl:n≤1048576)(hA:b6 w A xs)(hs:∀x∈xs,x.op.length≤1048576∧∀s∈x.op,s.size≤1048576)(hB:aD w B 33 (.int .i64 t::cs)):
  Calls Tryz.prog 107 #[.slice A n c,.func (.func 72) #[] #[.pointer (some ⟨B,0,none⟩)]] w fun e w' =>(∃v:Int,e= .returned (.int .i64 v)∧decide (0≤v)=n0 t xs)∧Below w.heap.size w w' :=by
 subst hn
 have HA:=zH hA
 have HS:=zH hs
 have HBX:=zH hB
 have HHIT:Hid (∀x∈xs,bC aH t x=false→n0 t xs=true):=fun x hx h=>by unfold n0;exact List.any_eq_true.2 ⟨x,hx,by rw[h];rfl⟩
 have HEND:Hid ((∀i x,i<xs.length→xs[i]? =some x→bC aH t x=true)→n0 t xs=false):=fun h=>by
  unfold n0
  rw[List.any_eq_false]
  intro x hx
  obtain⟨i,hi⟩:=List.mem_iff_getElem?.1 hx
  rw[h i x (List.getElem?_eq_some_iff.1 hi).1 hi];simp
 obtain⟨R,HR⟩:∃R,Hid (n0 t xs=R):=⟨_,rfl⟩
 rw[HR.out] at HHIT HEND⊢
 clear hA hs hB
 go_enter Tryz.func107,Tryz.ntmps107
 go_wp2_with fail
 go_loopw [5,8] (fun _ i wr=>∃k:Nat,k≤xs.length∧i= .int .i64 k∧Hid (∀i x,i<k→xs[i]? =some x→bC aH t x=true)∧Hid (Below w.heap.size w wr)) (fun _ i _=>xs.length-(Go.RowKit.intOf i).toNat)
 case atStart=>exact⟨0,Nat.zero_le _,rfl,(fun i x h=>by omega),Below.refl _ _⟩
 case round=>
  obtain⟨k,hk,rfl,HG,HB⟩:=hrel
  by_cases hlt:k<xs.length
  ·obtain⟨b,off,Ai,ci,x,rfl,he0,he1,hle,hmi,hx,hAi,hbl⟩:=(HA.out.below HB.out).elem hlt
   obtain⟨hxl,hxs⟩:=HS.out x (List.mem_of_getElem? hx.out)
   obtain⟨v,HV⟩:∃v,Hid (bC aH t x=v):=⟨_,rfl⟩
   have HP:=zH (Q0 (b:=v) (k:=x.known) (by exact HV.out) rfl hxl hle hAi.out hxs (HBX.out.below HB.out))
   have HH:=zH (HHIT.out x (List.mem_of_getElem? hx.out))
   cases v
   ·have HRT:=zH (HH.out HV.out)
    go_wp2_with fail
    refine HP.out.mono ?_
    rintro e w1 ⟨rfl,hb⟩
    have HB1:=zH (aA HB.out hb)
    clear hb he0 he1
    go_wp2_with fail
    go_ret
    exact⟨⟨_,rfl,by rw[HRT.out];exact decide_eq_true (by omega)⟩,HB1.out⟩
   ·have HGN:Hid (∀i x,i<k+1→xs[i]? =some x→bC aH t x=true):=by
     intro i y hi hy
     by_cases e:i=k
     ·subst e
      rw[hx.out] at hy;cases hy;exact HV.out
     ·exact HG.out i y (by omega) hy
    go_wp2_with fail
    refine HP.out.mono ?_
    rintro e w1 ⟨rfl,hb⟩
    have HB1:=zH (aA HB.out hb)
    clear hb he0 he1
    go_wp2_with fail
    go_roundw
    case rel=>exact⟨k+1,by omega,by go_num,HGN,HB1⟩
    case measure=>simp[Go.RowKit.intOf];omega
  ·obtain rfl:k=xs.length:=by omega
   have HRT:=zH (HEND.out HG.out)
   go_wp2_with fail
   go_ret
   exact⟨⟨-1,rfl,by rw[HRT.out];rfl⟩,HB.out⟩
theorem LT{t:Int}{A:Option Addr}{n c B:Nat}{xs:List (St ByteArray)}{w:World}{cs:List Value}{b:Bool}(hb:Hid (n0 t xs=b))(hn:n=xs.length)(hl:n≤1048576)(hA:b6 w A xs)(hs:∀x∈xs,x.op.length≤1048576∧∀s∈x.op,s.size≤1048576)(hB:aD w B 33 (.int .i64 t::cs)):
  Calls Tryz.prog 71 #[.slice A n c,.func (.func 72) #[] #[.pointer (some ⟨B,0,none⟩)]] w fun e w' =>e= .returned (.bool b)∧Below w.heap.size w w' :=by
 have HC:=zH (T3 (c:=c) hn hl hA hs hB)
 clear hn hl hA hs hB
 go_enter Tryz.func71,Tryz.ntmps71
 go_wp2_with fail
 refine HC.out.mono ?_
 rintro e w1 ⟨⟨v,rfl,hv⟩,hbel⟩
 have HV:=zH hv
 have HB:=zH hbel
 clear hv hbel
 go_wp2_with fail
 go_ret
 exact⟨aM (by rw[←hb.out,←HV.out]),HB.out⟩
theorem S8(T:aL):dP T=(decide (T.past.length≤10)&&bC aH T.things T.now&& !n0 T.things T.past):=by
 unfold dP dX n0
 rw[Bool.eq_iff_iff]
 simp only[Bool.and_eq_true,decide_eq_true_eq,List.all_eq_true,Bool.not_eq_true',List.any_eq_false]
 constructor
 ·rintro⟨⟨a,b⟩,c⟩
  exact⟨⟨b,a⟩,fun x hx=>by rw[c x hx];simp⟩
 ·rintro⟨⟨a,b⟩,c⟩
  exact⟨⟨b,a⟩,fun x hx=>by have:=c x hx;simpa using this⟩
theorem J3(T:aL)(A B:Option Addr)(n c m d:Nat)(w:World)(hT:bN w T A n c B m d)(hs:cD T):
  Calls Tryz.prog 23 #[.agg #[.int .i64 T.things,.int .i64 T.now.known,.slice A n c,.slice B m d]] w fun e w' =>e= .returned (.bool (dP T))∧Below w.heap.size w w' :=by
 have HRES:=zH (S8 T)
 rw[HRES.out]
 have hpl:m≤1048576:=by rw[hT.pn];exact hs.past
 have hm10:decide ((m:Int)≤10)=decide (T.past.length≤10):=by rw[hT.pn,Bool.eq_iff_iff,decide_eq_true_iff,decide_eq_true_iff];omega
 obtain⟨t,ht⟩:∃t,T.things=t:=⟨_,rfl⟩
 obtain⟨q,hq⟩:∃q,T.now.known=q:=⟨_,rfl⟩
 rw[ht,hq]
 have HX0:Hid (aD (w.alloc (.cells #[.int .i64 t,.int .i64 q,.slice A n c,.slice B m d] 33)) w.heap.size 33 [.int .i64 t,.int .i64 q,.slice A n c,.slice B m d]):=aD.new w _ _
 have HB0:Hid (Below w.heap.size w (w.alloc (.cells #[.int .i64 t,.int .i64 q,.slice A n c,.slice B m d] 33))):=(Below.refl _ _).alloc (Nat.le_refl _) _
 obtain⟨v,HV⟩:∃v,Hid (bC aH t ⟨q,T.now.op⟩=v):=⟨_,rfl⟩
 have hnow:T.now=⟨q,T.now.op⟩:=by rw[←hq]
 rw[hnow,HV.out]
 obtain⟨u,HU⟩:∃u,Hid (n0 t T.past=u):=⟨_,rfl⟩
 rw[HU.out]
 have HST:Hid (∀W:World,Below w.heap.size w W→Calls Tryz.prog 70 #[.int .i64 t,.agg #[.int .i64 q,.slice A n c]] W fun e w' =>e= .returned (.bool v)∧Below W.heap.size W w'):=fun W h=>by
  have:=GI t q A n c T.now.op W hT.hn (by rw[hT.hn];exact hs.op) hT.hc (hT.hA.below h) hs.txt
  rw[HV.out] at this;exact this
 have HCF:Hid (∀W:World,Below w.heap.size w W→aD W w.heap.size 33 [.int .i64 t,.int .i64 q,.slice A n c,.slice B m d]→Calls Tryz.prog 71 #[.slice B m d,.func (.func 72) #[] #[.pointer (some ⟨w.heap.size,0,none⟩)]] W fun e w' =>e= .returned (.bool u)∧Below W.heap.size W w'):=fun W h hx=>LT HU hT.pn (by rw[hT.pn];exact hs.past) (hT.hB.below h) hs.ops hx
 have hmf:∀(fn:Fn) (first cap:Array Value) (w:World),(Instr.makeFunc fn first cap).run Tryz.prog w= .ok (.func fn first cap) w:=fun _ _ _ _=>rfl
 obtain⟨z,HZ⟩:∃z,Hid (decide (T.past.length≤10)=z):=⟨_,rfl⟩
 rw[HZ.out] at hm10⊢
 clear hT hs hnow ht hq
 cases z
 ·go_enter Tryz.func23,Tryz.ntmps23
  go_wp2_with fail
  go_ret
  exact⟨rfl,HB0.out⟩
 ·cases v
  ·go_enter Tryz.func23,Tryz.ntmps23
   go_wp2_with (go_at_call 70;refine(HST.out _ HB0.out).mono ?_;rintro e w1 ⟨rfl,hb⟩;have HB1:=zH (aA HB0.out hb);clear hb)
   go_ret
   exact⟨rfl,HB1.out⟩
  ·go_enter Tryz.func23,Tryz.ntmps23
   go_wp2_with (first
    |(go_at_call 70;refine(HST.out _ HB0.out).mono ?_;rintro e w1 ⟨rfl,hb⟩;have HB1:=zH (aA HB0.out hb);have HX1:=zH (HX0.out.below hb);have hc3:=HX1.out.cell (i:=3) (v:= .slice B m d) rfl;clear hb)
    |(go_at_call 71;refine(HCF.out _ HB1.out HX1.out).mono ?_;rintro e w2 ⟨rfl,hb⟩;have HB2:=zH (aA HB1.out hb);clear hb hc3))
   go_ret
   exact⟨aM (by cases u<;>rfl),HB2.out⟩
def mS(w:World)(base:Nat)(vs:List (Int×Value))(xs:List (St ByteArray)):Prop:=
 (∀(i:Nat) (x:St ByteArray),i<vs.length→xs[i]? =some x→∃v,vs[i]? =some (x.known,v)∧aK w base v x.op)∧vs.Pairwise fun u v=>∀k j,u.2.ownBlock=some k→v.2.ownBlock=some j→k<j
theorem mS.next{w w' :World}{base:Nat}{vs:List (Int×Value)}{xs:List (St ByteArray)}{x:St ByteArray}{v:Value}(h:mS w base vs xs)(hvl:vs.length≤xs.length)(hx:xs[vs.length]? =some x)(hk:aX base w w')(hv:aK w' base v x.op)(hlt:∀k,v.ownBlock=some k→w.heap.size≤k):
  mS w' base (vs++[(x.known,v)]) xs:=by
 refine⟨fun i y hi hy=> ?_,?_⟩
 ·rw[List.length_append,List.length_singleton] at hi
  by_cases e:i<vs.length
  ·obtain⟨u,h1,h2⟩:=h.1 i y e hy
   exact⟨u,by rw[List.getElem?_append_left e];exact h1,h2.keep hk⟩
  ·have e2:i=vs.length:=by omega
   subst e2
   rw[hx] at hy
   cases hy
   exact⟨v,by rw[List.getElem?_append_right (Nat.le_refl _),Nat.sub_self];rfl,hv⟩
 ·rw[List.pairwise_append]
  refine⟨h.2,List.pairwise_singleton _ _,fun a ha b hb k j h1 h2=> ?_⟩
  rw[List.mem_singleton] at hb
  subst hb
  obtain⟨i,hi⟩:=List.mem_iff_getElem?.1 ha
  have hil:=(List.getElem?_eq_some_iff.1 hi).1
  obtain⟨u,h3,h4⟩:=h.1 i xs[i] hil (List.getElem?_eq_getElem (by omega))
  rw[hi] at h3
  cases h3
  have:=(h4.lt h1).2
  have:=hlt j h2
  omega
theorem aX.set{lo:Nat}{w:World}{g i:Nat}{v:Value}(h:g<lo):aX lo w (w.setCell ⟨g,i,none⟩ v):=
 ⟨by rw[show(w.setCell ⟨g,i,none⟩ v).heap.size=w.heap.size by simp[World.setCell]];exact Nat.le_refl _,fun b hb _=>Below.heap_setCell w ⟨g,i,none⟩ v b (fun e=>by simp only at e;omega)⟩
def sI(w:World)(lo:Nat)(T:aL)(o p:Value)(vs:List (Int×Value))(mid:Nat):Prop:=
 aK w lo o T.now.op∧(∀k,o.ownBlock=some k→k<mid)∧aY 30 w mid p vs T.past∧mS w (mid+1) vs T.past∧p.ownBlock=some mid∧lo≤mid
theorem mS.keep{w w' :World}{base:Nat}{vs:List (Int×Value)}{xs:List (St ByteArray)}(h:mS w base vs xs)(hk:aX base w w'):mS w' base vs xs:=
 ⟨fun i x h1 h2=>by obtain⟨v,h3,h4⟩:=h.1 i x h1 h2;exact⟨v,h3,h4.keep hk⟩,h.2⟩
theorem aX.base{lo lo2:Nat}{w w' :World}(h:aX lo w w')(hl:lo≤lo2):aX lo2 w w' :=⟨h.1,fun b h1 h2=>h.2 b (by omega) h2⟩
theorem sI.keep{w w' :World}{lo:Nat}{T:aL}{o p:Value}{vs:List (Int×Value)}{mid:Nat}(h:sI w lo T o p vs mid)(hk:aX lo w w'):sI w' lo T o p vs mid:=by
 obtain⟨h1,h2,h3,h4,h5,h6⟩:=h
 exact⟨h1.keep hk,h2,h3.keep (hk.base h6),h4.keep (hk.base (by omega)),h5,h6⟩
theorem z8{w:World}{lo m d:Nat}{B:Option Addr}{vs:List (Int×Value)}{xs:List (St ByteArray)}(h:aY 30 w lo (.slice B m d) vs xs):∀b,B=some b→lo≤b.block:=by
 intro b hb
 obtain⟨_,_,e,_,_,_,hl⟩:=h.form
 cases e
 exact(hl b hb).1
def XR(A B:Option Addr):Prop:=∀a b,A=some a→B=some b→a.block≠b.block
theorem BI{w:World}{b1 b2 n c m d:Nat}{A B:Option Addr}{xs:List ByteArray}{T:TypeId}{sz k:Nat}{cs:List Value}(h1:aK w b1 (.slice A n c) xs)(h2:w.ownsRow b2 T sz (.slice B m d) k cs)(hT:T≠9):XR A B:=by
 intro a b ha hb
 subst ha hb
 rcases eC h1 h2 hT with h|h
 ·cases h
 ·intro e
  exact h (by simp only[Value.ownBlock];rw[e])
def f9(w:World)(lo:Nat)(T:aL)(A:Option Addr)(n c:Nat)(B:Option Addr)(m d:Nat):Prop:=dL w lo T A n c B m d∧aK w lo (.slice A n c) T.now.op∧XR A B∧∀b,B=some b→lo≤b.block
def rB(T:aL)(b:Bool)(w:World)(e:Ending)(w' :World):Prop:=∃A n c B m d,e= .returned (.tuple #[.agg #[.int .i64 T.things,.int .i64 T.now.known,.slice A n c,.slice B m d],.bool b])∧f9 w' w.heap.size T A n c B m d∧Below w.heap.size w w'
def dN(T:aL)(k:Int)(s:ByteArray):aL×Bool:=if dP T=true then(match gJ T k s with|some X=>(X,true)|none=>(T,false)) else(lW,false)
theorem G2{T:aL}(k:Int)(s:ByteArray)(h:dP T=false):dN T k s=(lW,false):=by unfold dN;rw[h];rfl
theorem sZ{T:aL}{k:Int}{s:ByteArray}(h:dP T=true)(hd:gJ T k s=none):dN T k s=(T,false):=by unfold dN;rw[if_pos h,hd]
theorem rJ{T X:aL}{k:Int}{s:ByteArray}(h:dP T=true)(hd:gJ T k s=some X):dN T k s=(X,true):=by unfold dN;rw[if_pos h,hd]
theorem QZ{t:Int}{s:ByteArray}(h:aH.isS t s=true):s.size≤60:=by
 obtain⟨x,hx⟩:=iV.1 h
 exact(jQ hx).2.2.1
theorem pV{t:Int}{x:St ByteArray}(h:bC aH t x=true):x.op.length≤4∧∀s∈x.op,s.size≤60:=by
 obtain⟨_,_,h3,h4,_⟩:=(cS aH).1 h
 exact⟨h3,fun s hs=>QZ (h4 s hs).1⟩
theorem lQ{T:aL}(h:dP T=true):cD T:=by
 obtain⟨h1,h2,h3⟩:=(cT aH).1 h
 obtain⟨h4,h5⟩:=pV h1
 exact⟨by omega,by omega,fun s hs=>by have:=h5 s hs;omega,fun x hx=>by
  obtain⟨h6,h7⟩:=pV (h3 x hx)
  exact⟨by omega,fun s hs=>by have:=h7 s hs;omega⟩⟩
structure iY (w:World) (g:Nat) (arg kd out:List Value) (wx:World):Prop where
 x:aD wx w.heap.size 33 arg
 d:aD wx (w.heap.size+1) 41 kd
 r:aD wx (w.heap.size+2) 33 [.int .i64 0,.int .i64 0,.slice none 0 0,.slice none 0 0]
 o:aD wx g 33 out
 b:Below w.heap.size w wx
 lo:w.heap.size+2<g
theorem iY.below{w wx wy:World}{g:Nat}{arg kd out:List Value}(h:iY w g arg kd out wx)(hb:Below wx.heap.size wx wy):iY w g arg kd out wy:=
 ⟨h.x.below hb,h.d.below hb,h.r.below hb,h.o.below hb,aA h.b hb,h.lo⟩
theorem iY.drewN{w wx:World}{g:Nat}{arg kd out:List Value}(h:iY w g arg kd out wx)(n:Nat):iY w g arg kd out (wx.drewN n):=⟨h.x.drewN n,h.d.drewN n,h.r.drewN n,h.o.drewN n,aE h.b n,h.lo⟩
theorem iY.alloc{w wx:World}{g:Nat}{arg kd out:List Value}(h:iY w g arg kd out wx)(o:Obj):iY w g arg kd out (wx.alloc o):=h.below ((Below.refl _ _).alloc (Nat.le_refl _) _)
theorem rL(w:World)(t q kind:Int)(text:ByteArray)(o p:Value):
  Hid (aD (((w.alloc (.cells #[.int .i64 t,.int .i64 q,o,p] 33)).alloc (.cells #[.int .i64 kind,.string text] 41)).alloc (.cells #[.int .i64 0,.int .i64 0,.slice none 0 0,.slice none 0 0] 33)) w.heap.size 33 [.int .i64 t,.int .i64 q,o,p])∧
  Hid (aD (((w.alloc (.cells #[.int .i64 t,.int .i64 q,o,p] 33)).alloc (.cells #[.int .i64 kind,.string text] 41)).alloc (.cells #[.int .i64 0,.int .i64 0,.slice none 0 0,.slice none 0 0] 33)) (w.heap.size+1) 41 [.int .i64 kind,.string text])∧
  Hid (aD (((w.alloc (.cells #[.int .i64 t,.int .i64 q,o,p] 33)).alloc (.cells #[.int .i64 kind,.string text] 41)).alloc (.cells #[.int .i64 0,.int .i64 0,.slice none 0 0,.slice none 0 0] 33)) (w.heap.size+2) 33 [.int .i64 0,.int .i64 0,.slice none 0 0,.slice none 0 0])∧
  Hid (Below w.heap.size w (((w.alloc (.cells #[.int .i64 t,.int .i64 q,o,p] 33)).alloc (.cells #[.int .i64 kind,.string text] 41)).alloc (.cells #[.int .i64 0,.int .i64 0,.slice none 0 0,.slice none 0 0] 33))):=by
 have h2:=aD.new (w.alloc (.cells #[.int .i64 t,.int .i64 q,o,p] 33)) 41 [.int .i64 kind,.string text]
 have h3:=aD.new ((w.alloc (.cells #[.int .i64 t,.int .i64 q,o,p] 33)).alloc (.cells #[.int .i64 kind,.string text] 41)) 33 [.int .i64 0,.int .i64 0,.slice none 0 0,.slice none 0 0]
 rw[World.size_alloc] at h2
 rw[World.size_alloc,World.size_alloc] at h3
 exact⟨((aD.new w _ [.int .i64 t,.int .i64 q,o,p]).alloc _).alloc _,h2.alloc _,h3,(((Below.refl _ _).alloc (Nat.le_refl _) _).alloc (by rw[World.size_alloc];omega) _).alloc (by rw[World.size_alloc,World.size_alloc];omega) _⟩
theorem lX{w wx:World}{g:Nat}{arg kd:List Value}{T:aL}{t k:Int}{A B:Option Addr}{n c m d:Nat}(h:iY w g arg kd [.int .i64 t,.int .i64 k,.slice A n c,.slice B m d] wx)(hin:f9 wx (w.heap.size+3) T A n c B m d):
  ((wx.cell? ⟨w.heap.size+2,0,none⟩=some (.int .i64 0)∧wx.cell? ⟨w.heap.size+2,1,none⟩=some (.int .i64 0)∧wx.cell? ⟨w.heap.size+2,2,none⟩=some (.slice none 0 0)∧wx.cell? ⟨w.heap.size+2,3,none⟩=some (.slice none 0 0)∧wx.frozen? ⟨w.heap.size+2,0,none⟩=false∧wx.frozen? ⟨w.heap.size+2,1,none⟩=false∧wx.frozen? ⟨w.heap.size+2,2,none⟩=false∧wx.frozen? ⟨w.heap.size+2,3,none⟩=false)∧
  ((wx.setCell ⟨w.heap.size+2,0,none⟩ (.int .i64 t)).cell? ⟨w.heap.size+2,1,none⟩=some (.int .i64 0)∧(wx.setCell ⟨w.heap.size+2,0,none⟩ (.int .i64 t)).frozen? ⟨w.heap.size+2,1,none⟩=false)∧
  (((wx.setCell ⟨w.heap.size+2,0,none⟩ (.int .i64 t)).setCell ⟨w.heap.size+2,1,none⟩ (.int .i64 k)).cell? ⟨w.heap.size+2,2,none⟩=some (.slice none 0 0)∧((wx.setCell ⟨w.heap.size+2,0,none⟩ (.int .i64 t)).setCell ⟨w.heap.size+2,1,none⟩ (.int .i64 k)).frozen? ⟨w.heap.size+2,2,none⟩=false)∧
  ((((wx.setCell ⟨w.heap.size+2,0,none⟩ (.int .i64 t)).setCell ⟨w.heap.size+2,1,none⟩ (.int .i64 k)).setCell ⟨w.heap.size+2,2,none⟩ (.slice A n c)).cell? ⟨w.heap.size+2,3,none⟩=some (.slice none 0 0)∧(((wx.setCell ⟨w.heap.size+2,0,none⟩ (.int .i64 t)).setCell ⟨w.heap.size+2,1,none⟩ (.int .i64 k)).setCell ⟨w.heap.size+2,2,none⟩ (.slice A n c)).frozen? ⟨w.heap.size+2,3,none⟩=false))∧
  Hid (aD ((((wx.setCell ⟨w.heap.size+2,0,none⟩ (.int .i64 t)).setCell ⟨w.heap.size+2,1,none⟩ (.int .i64 k)).setCell ⟨w.heap.size+2,2,none⟩ (.slice A n c)).setCell ⟨w.heap.size+2,3,none⟩ (.slice B m d)) (w.heap.size+2) 33 [.int .i64 t,.int .i64 k,.slice A n c,.slice B m d])∧
  Hid (f9 ((((wx.setCell ⟨w.heap.size+2,0,none⟩ (.int .i64 t)).setCell ⟨w.heap.size+2,1,none⟩ (.int .i64 k)).setCell ⟨w.heap.size+2,2,none⟩ (.slice A n c)).setCell ⟨w.heap.size+2,3,none⟩ (.slice B m d)) w.heap.size T A n c B m d)∧
  Hid (Below w.heap.size w ((((wx.setCell ⟨w.heap.size+2,0,none⟩ (.int .i64 t)).setCell ⟨w.heap.size+2,1,none⟩ (.int .i64 k)).setCell ⟨w.heap.size+2,2,none⟩ (.slice A n c)).setCell ⟨w.heap.size+2,3,none⟩ (.slice B m d))):=by
 obtain⟨h1,h2,h3,h4,h5⟩:=h.r.store4 (.int .i64 t) (.int .i64 k) (.slice A n c) (.slice B m d)
 refine⟨⟨h1,h2,h3,h4⟩,h5,?_,bG h.b (by omega) _ _ _ _⟩
 have hset:∀(W:World) (i:Nat) (v:Value),aX (w.heap.size+3) W (W.setCell ⟨w.heap.size+2,i,none⟩ v):=fun W i v=>aX.set (by omega)
 have hk:=(((hset wx 0 (.int .i64 t)).trans (hset _ 1 (.int .i64 k)) (Nat.le_refl _)).trans (hset _ 2 (.slice A n c)) (Nat.le_refl _)).trans (hset _ 3 (.slice B m d)) (Nat.le_refl _)
 exact⟨(hin.1.keep hk).base (by omega),(hin.2.1.keep hk).base (by omega),hin.2.2.1,fun b hb=>Nat.le_trans (by omega) (hin.2.2.2 b hb)⟩
def tD(T:aL)(lo:Nat)(t q:Int)(w:World)(e:Ending)(w' :World):Prop:=∃A c B d vs,e= .returned (.agg #[.int .i64 t,.int .i64 q,.slice A T.now.op.length c,.slice B T.past.length d])∧aK w' lo (.slice A T.now.op.length c) T.now.op∧aY 30 w' lo (.slice B T.past.length d) vs T.past∧Below w.heap.size w w'
theorem pF{T:aL}{t q:Int}{lo:Nat}(ht:Hid (T.things=t∧T.now.known=q)){A B:Option Addr}{n c m d:Nat}{w:World}(hT:bN w T A n c B m d)(hs:cD T)(hlo:lo≤w.heap.size):
  Calls Tryz.prog 60 #[.agg #[.int .i64 t,.int .i64 q,.slice A n c,.slice B m d]] w (tD T lo t q w):=by
 obtain⟨rfl,rfl⟩:=ht.out
 refine(V2 T A B n c m d w hT hs).mono ?_
 rintro e w' ⟨o,p,vs,rfl,ho,hp,hb⟩
 obtain⟨A',c',rfl,_⟩:=ho.form
 obtain⟨B',d',rfl,_⟩:=hp.form
 exact⟨A',c',B',d',vs,rfl,ho.base hlo,hp.base hlo,hb⟩
theorem r8{w:World}{lo:Nat}{T:aL}{A B:Option Addr}{c d:Nat}{vs:List (Int×Value)}(ho:aK w lo (.slice A T.now.op.length c) T.now.op)(hp:aY 30 w lo (.slice B T.past.length d) vs T.past):f9 w lo T A T.now.op.length c B T.past.length d:=by
 obtain⟨A',c',B',d',h1,h2,h3⟩:=qO ho hp
 cases h1;cases h2
 exact⟨h3,ho,BI ho hp.row (by decide),z8 hp⟩
theorem U3(T:aL)(A B:Option Addr)(n c m d:Nat)(kind:Int)(text:ByteArray)(w:World)(hT:bN w T A n c B m d)(hs:cD T)(hx:text.size≤1048576)(hok:dP T=false):
  Calls Tryz.prog 61 #[.agg #[.int .i64 T.things,.int .i64 T.now.known,.slice A n c,.slice B m d],.agg #[.int .i64 kind,.string text]] w (rB lW false w):=by
 obtain rfl:=hT.hn
 obtain rfl:=hT.pn
 obtain⟨HX0,HK0,HR0,HB0⟩:=rL w T.things T.now.known kind text (.slice A T.now.op.length c) (.slice B T.past.length d)
 have HT:=zH hT
 have HS:=zH hs
 have hol:=hs.op
 have hpl:=hs.past
 have hx9:text.size≤9223372036854775807:=by omega
 obtain⟨t,ht⟩:∃t,T.things=t:=⟨_,rfl⟩
 obtain⟨q,hq⟩:∃q,T.now.known=q:=⟨_,rfl⟩
 have HTQ:Hid (T.things=t∧T.now.known=q):=⟨ht,hq⟩
 have HOK:Hid (∀W:World,Below w.heap.size w W→Calls Tryz.prog 13 #[.agg #[.int .i64 t,.int .i64 q,.slice A T.now.op.length c,.slice B T.past.length d]] W fun e w' =>e= .returned (.bool (dP T))∧Below W.heap.size W w'):=fun W h=>by
  have:=q7 T A B _ c _ d W (hT.below h) hs
  rw[ht,hq] at this;exact this
 have HCP:Hid (∀W:World,Below w.heap.size w W→w.heap.size+3≤W.heap.size→Calls Tryz.prog 60 #[.agg #[.int .i64 t,.int .i64 q,.slice A T.now.op.length c,.slice B T.past.length d]] W (tD T (w.heap.size+3) t q W)):=fun W h h2=>pF HTQ (hT.below h) hs h2
 rw[hok] at HOK
 rw[ht,hq] at HX0 HK0 HR0 HB0⊢
 have HOT:=zH hok
 clear hT hs ht hq hok
 go_enter Tryz.func61,Tryz.ntmps61
 go_wp2_with fail
 obtain⟨W0,hW0⟩:∃W,((w.alloc (.cells #[.int .i64 t,.int .i64 q,.slice A T.now.op.length c,.slice B T.past.length d] 33)).alloc (.cells #[.int .i64 kind,.string text] 41)).alloc (.cells #[.int .i64 0,.int .i64 0,.slice none 0 0,.slice none 0 0] 33)=W:=⟨_,rfl⟩
 rw[hW0] at HX0 HK0 HR0 HB0⊢
 clear hW0
 refine(HOK.out _ HB0.out).mono ?_
 rintro e w1 ⟨rfl,hb⟩
 have HX1:=zH (HX0.out.below hb)
 have HK1:=zH (HK0.out.below hb)
 have HR1:=zH (HR0.out.below hb)
 have HB1:=zH (aA HB0.out hb)
 clear hb HX0 HK0 HR0 HB0 HOK
 have hx0:=HX1.out.cell (i:=0) (v:= .int .i64 t) rfl
 have hx1:=HX1.out.cell (i:=1) (v:= .int .i64 q) rfl
 have hx2:=HX1.out.cell (i:=2) (v:= .slice A T.now.op.length c) rfl
 have hx3:=HX1.out.cell (i:=3) (v:= .slice B T.past.length d) rfl
 obtain⟨⟨ha0,ha1,ha2,ha3,ha4,ha5,ha6,ha7⟩,⟨hb2,hb3⟩,⟨hb4,hb5⟩,⟨hb6,hb7⟩,HOUT⟩:=HR1.out.store4 (.int .i64 0) (.int .i64 0) (.slice none 0 0) (.slice none 0 0)
 have HB2:=zH (bG HB1.out (show w.heap.size≤w.heap.size+2 by omega) (.int .i64 0) (.int .i64 0) (.slice none 0 0) (.slice none 0 0))
 clear hx0 hx1 hx2 hx3
 go_wp2_with fail
 refine bodyPost_ret_by (aU (b:=w.heap.size+2) rfl rfl rfl HOUT) rfl ⟨none,0,0,none,0,0,rfl,⟨fun w' _=>⟨rfl,Nat.le_refl _,Nat.zero_le _,a7.nil _ _,rfl,Nat.le_refl _,Nat.zero_le _,b6.nil _ _⟩,aK.nil _ _,(fun a b h=>by cases h),fun b h=>by cases h⟩,HB2.out⟩
theorem I5{text:ByteArray}(h:text≠⟨#[]⟩):(text.toList==(ByteArray.mk #[]).toList)=false∧text.toList.isEmpty=false∧(text.toList==[])=false:=by
 have hn2:text.toList.isEmpty=false:=by
  rw[ByteArray.toList_eq,List.isEmpty_eq_false_iff]
  intro e
  exact h (ByteArray.ext (Array.toList_inj.mp e))
 exact⟨lT h,hn2,by rw[beq_eq_false_iff_ne];intro e;rw[e] at hn2;cases hn2⟩
theorem VI(T:aL)(A B:Option Addr)(n c m d:Nat)(kind:Int)(text:ByteArray)(w:World)(hT:bN w T A n c B m d)(hs:cD T)(hx:text.size≤1048576)(hok:dP T=true)
  (hc:((kind<0∨1<kind)∧¬(kind=2∧text=⟨#[]⟩∧0<T.past.length))∨(0≤kind∧kind≤1∧fY T.things text=false)):
  Calls Tryz.prog 61 #[.agg #[.int .i64 T.things,.int .i64 T.now.known,.slice A n c,.slice B m d],.agg #[.int .i64 kind,.string text]] w (rB T false w):=by
 obtain rfl:=hT.hn
 obtain rfl:=hT.pn
 obtain⟨HX0,HK0,HR0,HB0⟩:=rL w T.things T.now.known kind text (.slice A T.now.op.length c) (.slice B T.past.length d)
 have HT:=zH hT
 have HS:=zH hs
 have hol:=hs.op
 have hpl:=hs.past
 have hx9:text.size≤9223372036854775807:=by omega
 obtain⟨t,ht⟩:∃t,T.things=t:=⟨_,rfl⟩
 obtain⟨q,hq⟩:∃q,T.now.known=q:=⟨_,rfl⟩
 have HTQ:Hid (T.things=t∧T.now.known=q):=⟨ht,hq⟩
 have HOK:Hid (∀W:World,Below w.heap.size w W→Calls Tryz.prog 13 #[.agg #[.int .i64 t,.int .i64 q,.slice A T.now.op.length c,.slice B T.past.length d]] W fun e w' =>e= .returned (.bool (dP T))∧Below W.heap.size W w'):=fun W h=>by
  have:=q7 T A B _ c _ d W (hT.below h) hs
  rw[ht,hq] at this;exact this
 have HCP:Hid (∀W:World,Below w.heap.size w W→w.heap.size+3≤W.heap.size→Calls Tryz.prog 60 #[.agg #[.int .i64 t,.int .i64 q,.slice A T.now.op.length c,.slice B T.past.length d]] W (tD T (w.heap.size+3) t q W)):=fun W h h2=>pF HTQ (hT.below h) hs h2
 rw[hok] at HOK
 rw[ht,hq] at HX0 HK0 HR0 HB0⊢
 have HOT:=zH hok
 clear hT hs ht hq hok
 go_enter Tryz.func61,Tryz.ntmps61
 go_wp2_with fail
 obtain⟨W0,hW0⟩:∃W,((w.alloc (.cells #[.int .i64 t,.int .i64 q,.slice A T.now.op.length c,.slice B T.past.length d] 33)).alloc (.cells #[.int .i64 kind,.string text] 41)).alloc (.cells #[.int .i64 0,.int .i64 0,.slice none 0 0,.slice none 0 0] 33)=W:=⟨_,rfl⟩
 rw[hW0] at HX0 HK0 HR0 HB0⊢
 clear hW0
 refine(HOK.out _ HB0.out).mono ?_
 rintro e w1 ⟨rfl,hb⟩
 have HX1:=zH (HX0.out.below hb)
 have HK1:=zH (HK0.out.below hb)
 have HR1:=zH (HR0.out.below hb)
 have HB1:=zH (aA HB0.out hb)
 clear hb HX0 HK0 HR0 HB0 HOK
 have hx0:=HX1.out.cell (i:=0) (v:= .int .i64 t) rfl
 have hx1:=HX1.out.cell (i:=1) (v:= .int .i64 q) rfl
 have hx2:=HX1.out.cell (i:=2) (v:= .slice A T.now.op.length c) rfl
 have hx3:=HX1.out.cell (i:=3) (v:= .slice B T.past.length d) rfl
 have HC:=zH hc
 rw[HTQ.out.1] at HC
 clear hc
 have hlo1:w.heap.size+3≤w1.heap.size:=by have:=HR1.out.lt;omega
 go_wp2_with fail
 refine(HCP.out _ HB1.out hlo1).mono ?_
 rintro e w2 ⟨A2,c2,B2,d2,vs,rfl,ho,hp,hb⟩
 obtain⟨g,hg⟩:∃g,w2.heap.size=g:=⟨_,rfl⟩
 have hsz2:w1.heap.size≤w2.heap.size:=hb.size
 have hD:iY w g [.int .i64 t,.int .i64 q,.slice A T.now.op.length c,.slice B T.past.length d] [.int .i64 kind,.string text] [.int .i64 t,.int .i64 q,.slice A2 T.now.op.length c2,.slice B2 T.past.length d2] (w2.alloc (.cells #[.int .i64 t,.int .i64 q,.slice A2 T.now.op.length c2,.slice B2 T.past.length d2] 33)):=by
  have:=aD.new w2 33 [.int .i64 t,.int .i64 q,.slice A2 T.now.op.length c2,.slice B2 T.past.length d2]
  rw[hg] at this
  exact⟨(HX1.out.below hb).alloc _,(HK1.out.below hb).alloc _,(HR1.out.below hb).alloc _,this,(aA HB1.out hb).alloc (aA HB1.out hb).size _,by omega⟩
 have hbn:Below w2.heap.size w2 (w2.alloc (.cells #[.int .i64 t,.int .i64 q,.slice A2 T.now.op.length c2,.slice B2 T.past.length d2] 33)):=(Below.refl _ _).alloc (Nat.le_refl _) _
 have HO:Hid (aK (w2.alloc (.cells #[.int .i64 t,.int .i64 q,.slice A2 T.now.op.length c2,.slice B2 T.past.length d2] 33)) (w.heap.size+3) (.slice A2 T.now.op.length c2) T.now.op):=ho.below hbn
 have HP:Hid (aY 30 (w2.alloc (.cells #[.int .i64 t,.int .i64 q,.slice A2 T.now.op.length c2,.slice B2 T.past.length d2] 33)) (w.heap.size+3) (.slice B2 T.past.length d2) vs T.past):=hp.below hbn
 have HLT:Hid ((∀k,(Value.slice A2 T.now.op.length c2).ownBlock=some k→k<g)∧∀k,(Value.slice B2 T.past.length d2).ownBlock=some k→k<g):=by
  refine⟨fun k hk=> ?_,fun k hk=> ?_⟩
  ·have:=(ho.lt hk).2;omega
  ·have:=(hp.lt hk).2;omega
 have HD:=zH hD
 clear hD ho hp hb hbn hsz2 hlo1 hx0 hx1 hx2 hx3 HX1 HK1 HR1 HB1 HCP
 go_upto_region 4 with fail
 obtain⟨w3,hw3⟩:∃w3,w2.alloc (.cells #[.int .i64 t,.int .i64 q,.slice A2 T.now.op.length c2,.slice B2 T.past.length d2] 33)=w3:=⟨_,rfl⟩
 rw[hw3] at HD HO HP⊢
 have HSZ:Hid (w3.heap.size=g+1):=by unfold Hid;rw[←hw3,World.size_alloc,hg]
 clear hw3 hg
 have hx0:=HD.out.x.cell (i:=0) (v:= .int .i64 t) rfl
 have hx1:=HD.out.x.cell (i:=1) (v:= .int .i64 q) rfl
 have hx2:=HD.out.x.cell (i:=2) (v:= .slice A T.now.op.length c) rfl
 have hx3:=HD.out.x.cell (i:=3) (v:= .slice B T.past.length d) rfl
 have hk0:=HD.out.d.cell (i:=0) (v:= .int .i64 kind) rfl
 have hk1:=HD.out.d.cell (i:=1) (v:= .string text) rfl
 have ho0:=HD.out.o.cell (i:=0) (v:= .int .i64 t) rfl
 have ho1:=HD.out.o.cell (i:=1) (v:= .int .i64 q) rfl
 have ho2:=HD.out.o.cell (i:=2) (v:= .slice A2 T.now.op.length c2) rfl
 have ho3:=HD.out.o.cell (i:=3) rfl
 have hsp:(0:Int)≤(T.past.length:Int):=Int.natCast_nonneg _
 rcases HC.out with⟨h01,h2⟩|⟨h0,h1,hS⟩
 ·by_cases hk2:kind=2
  ·subst hk2
   by_cases hte:text=⟨#[]⟩
   ·subst hte
    have hp0:T.past.length=0:=Classical.byContradiction fun h=>h2 ⟨rfl,rfl,by omega⟩
    have HP0:=zH hp0
    have hd:decide (0<T.past.length)=false:=decide_eq_false (by omega)
    clear h2 hp0 HC
    obtain⟨⟨⟨ha0,ha1,ha2,ha3,ha4,ha5,ha6,ha7⟩,⟨hb2,hb3⟩,⟨hb4,hb5⟩,⟨hb6,hb7⟩⟩,HOUT,HIN,HBE⟩:=lX HD.out (r8 HO.out HP.out)
    go_wp2_with (go_at_call 98;refine(n4 _ _ _ _ (.inr (by decide))).mono ?_;rintro e w' ⟨rfl,rfl⟩)
    refine bodyPost_ret_by (aU (b:=w.heap.size+2) rfl rfl rfl HOUT) rfl ⟨A2,_,c2,B2,_,d2,by rw[HTQ.out.1,HTQ.out.2];rfl,HIN.out,HBE.out⟩
   ·obtain⟨hn1,hn2,hn3⟩:=I5 hte
    clear h2 hte HC
    obtain⟨⟨⟨ha0,ha1,ha2,ha3,ha4,ha5,ha6,ha7⟩,⟨hb2,hb3⟩,⟨hb4,hb5⟩,⟨hb6,hb7⟩⟩,HOUT,HIN,HBE⟩:=lX HD.out (r8 HO.out HP.out)
    go_wp2_with (go_at_call 98;refine(n4 _ _ _ _ (.inr (by decide))).mono ?_;rintro e w' ⟨rfl,rfl⟩)
    refine bodyPost_ret_by (aU (b:=w.heap.size+2) rfl rfl rfl HOUT) rfl ⟨A2,_,c2,B2,_,d2,by rw[HTQ.out.1,HTQ.out.2];rfl,HIN.out,HBE.out⟩
  ·have hkb:(kind==2)=false:=by rw[beq_eq_false_iff_ne];exact hk2
   have HK:=zH h01
   clear h2 hk2 HC h01
   obtain⟨⟨⟨ha0,ha1,ha2,ha3,ha4,ha5,ha6,ha7⟩,⟨hb2,hb3⟩,⟨hb4,hb5⟩,⟨hb6,hb7⟩⟩,HOUT,HIN,HBE⟩:=lX HD.out (r8 HO.out HP.out)
   go_wp2_with (go_at_call 98;refine(n4 _ _ _ _ HK.out).mono ?_;rintro e w' ⟨rfl,rfl⟩)
   refine bodyPost_ret_by (aU (b:=w.heap.size+2) rfl rfl rfl HOUT) rfl ⟨A2,_,c2,B2,_,d2,by rw[HTQ.out.1,HTQ.out.2];rfl,HIN.out,HBE.out⟩
 ·have hkb:(kind==2)=false:=by rw[beq_eq_false_iff_ne];omega
  have HK:=zH (And.intro h0 h1)
  have HIS:=zH hS
  clear HC h0 h1 hS
  go_wp2_with (go_at_call 98;refine(hV _ _ _ _ HK.out.1 HK.out.2).mono ?_;rintro e w' ⟨rfl,rfl⟩)
  refine(fD HIS _ hx9).mono ?_
  rintro e w4 ⟨rfl,hb⟩
  clear hx0 hx1 hx2 hx3 hk0 hk1 ho0 ho1 ho2 ho3
  replace HD:=zH (HD.out.below hb)
  replace HO:=zH (HO.out.below hb)
  replace HP:=zH (HP.out.below hb)
  clear hb
  have hx0:=HD.out.x.cell (i:=0) (v:= .int .i64 t) rfl
  have hx1:=HD.out.x.cell (i:=1) (v:= .int .i64 q) rfl
  have hx2:=HD.out.x.cell (i:=2) (v:= .slice A T.now.op.length c) rfl
  have hx3:=HD.out.x.cell (i:=3) (v:= .slice B T.past.length d) rfl
  have hk0:=HD.out.d.cell (i:=0) (v:= .int .i64 kind) rfl
  have hk1:=HD.out.d.cell (i:=1) (v:= .string text) rfl
  have ho0:=HD.out.o.cell (i:=0) (v:= .int .i64 t) rfl
  have ho1:=HD.out.o.cell (i:=1) (v:= .int .i64 q) rfl
  have ho2:=HD.out.o.cell (i:=2) (v:= .slice A2 T.now.op.length c2) rfl
  have ho3:=HD.out.o.cell (i:=3) rfl
  obtain⟨⟨⟨ha0,ha1,ha2,ha3,ha4,ha5,ha6,ha7⟩,⟨hb2,hb3⟩,⟨hb4,hb5⟩,⟨hb6,hb7⟩⟩,HOUT,HIN,HBE⟩:=lX HD.out (r8 HO.out HP.out)
  go_wp2_with fail
  refine bodyPost_ret_by (aU (b:=w.heap.size+2) rfl rfl rfl HOUT) rfl ⟨A2,_,c2,B2,_,d2,by rw[HTQ.out.1,HTQ.out.2];rfl,HIN.out,HBE.out⟩
theorem iY.put12{w wx:World}{g:Nat}{arg kd:List Value}{a0 a1 a2 a3:Value}(h:iY w g arg kd [a0,a1,a2,a3] wx)(u v:Value):
  (wx.cell? ⟨g,1,none⟩=some a1∧wx.cell? ⟨g,2,none⟩=some a2∧wx.frozen? ⟨g,1,none⟩=false∧wx.frozen? ⟨g,2,none⟩=false∧(wx.setCell ⟨g,1,none⟩ u).cell? ⟨g,2,none⟩=some a2∧(wx.setCell ⟨g,1,none⟩ u).frozen? ⟨g,2,none⟩=false)∧
  Hid (iY w g arg kd [a0,u,v,a3] ((wx.setCell ⟨g,1,none⟩ u).setCell ⟨g,2,none⟩ v)):=by
 have hlo:=h.lo
 have h1:=h.o.set 1 u
 refine⟨⟨h.o.cell rfl,h.o.cell rfl,h.o.frozen 1,h.o.frozen 2,h1.cell rfl,h1.frozen 2⟩,?_⟩
 exact⟨(h.x.other (by omega) _).other (by omega) _,(h.d.other (by omega) _).other (by omega) _,(h.r.other (by omega) _).other (by omega) _,h1.set 2 v,(h.b.setCell (p:=⟨g,1,none⟩) (by show w.heap.size≤g;omega) _).setCell (p:=⟨g,2,none⟩) (by show w.heap.size≤g;omega) _,hlo⟩
theorem iY.put3{w wx:World}{g:Nat}{arg kd:List Value}{a0 a1 a2 a3:Value}(h:iY w g arg kd [a0,a1,a2,a3] wx)(v:Value):
  (wx.cell? ⟨g,3,none⟩=some a3∧wx.frozen? ⟨g,3,none⟩=false)∧Hid (iY w g arg kd [a0,a1,a2,v] (wx.setCell ⟨g,3,none⟩ v)):=by
 have hlo:=h.lo
 exact⟨⟨h.o.cell rfl,h.o.frozen 3⟩,h.x.other (by omega) _,h.d.other (by omega) _,h.r.other (by omega) _,h.o.set 3 v,h.b.setCell (p:=⟨g,3,none⟩) (by show w.heap.size≤g;omega) _,hlo⟩
theorem aK.set12{w:World}{base g:Nat}{v:Value}{xs:List ByteArray}{cs:List Value}(h:aK w base v xs)(hb:aD w g 33 cs)(a b:Value):aK ((w.setCell ⟨g,1,none⟩ a).setCell ⟨g,2,none⟩ b) base v xs:=
 (h.setBox hb (by decide)).setBox (hb.set 1 a) (by decide)
theorem aY.set12{w:World}{base g:Nat}{v:Value}{vs:List (Int×Value)}{xs:List (St ByteArray)}{cs:List Value}(h:aY 30 w base v vs xs)(hb:aD w g 33 cs)(a b:Value):aY 30 ((w.setCell ⟨g,1,none⟩ a).setCell ⟨g,2,none⟩ b) base v vs xs:=
 (h.setBox hb (by decide) (by decide)).setBox (hb.set 1 a) (by decide) (by decide)
theorem b6.take{w:World}{A:Option Addr}{xs:List (St ByteArray)}(h:b6 w A xs)(k:Nat):b6 w A (xs.take k):=by
 intro hp
 rw[List.length_take] at hp
 obtain⟨b,off,rfl,hlt,hc⟩:=h (by omega)
 refine⟨b,off,rfl,hlt,fun i x hx=>hc i x ?_⟩
 have hi:i<k:=by
  have:=(List.getElem?_eq_some_iff.1 hx).1
  rw[List.length_take] at this;omega
 rw[List.getElem?_take_of_lt hi] at hx
 exact hx
theorem b6.drop1{w:World}{b off:Nat}{xs:List (St ByteArray)}(h:b6 w (some ⟨b,off,none⟩) xs):b6 w (some ⟨b,off+2,none⟩) xs.tail:=by
 intro hp
 rw[List.length_tail] at hp
 obtain⟨b',off',e,hlt,hc⟩:=h (by omega)
 cases e
 refine⟨b,off+2,rfl,hlt,fun i x hx=> ?_⟩
 rw[List.getElem?_tail] at hx
 obtain⟨Ai,ci,h1,h2,h3⟩:=hc (i+1) x hx
 exact⟨Ai,ci,by rw[show off+2+i*2=off+(i+1)*2 by omega];exact h1,by rw[show off+2+i*2+1=off+(i+1)*2+1 by omega];exact h2,h3⟩
theorem aY.elem{w:World}{lo d:Nat}{B:Option Addr}{vs:List (Int×Value)}{xs:List (St ByteArray)}(h:aY 30 w lo (.slice B xs.length d) vs xs){i:Nat}(hi:i<xs.length):
  ∃b off Ai ci x,B=some ⟨b,off,none⟩∧w.cell? ⟨b,off+i*2,none⟩=some (.int .i64 x.known)∧w.cell? ⟨b,off+i*2+1,none⟩=some (.slice Ai x.op.length ci)∧Hid (xs[i]? =some x)∧Hid (aK w lo (.slice Ai x.op.length ci) x.op):=by
 have hx:xs[i]? =some xs[i]:=List.getElem?_eq_getElem hi
 obtain⟨v,h1,h2,_⟩:=h.sees.at_ i _ hx
 obtain⟨A',c',e,_,_,hrow,_⟩:=h.form
 cases e
 obtain⟨b,off,rfl,hlt,hc⟩:=hrow (by omega)
 obtain⟨Ai,ci,e0,e1,_⟩:=hc i _ hx
 refine⟨b,off,Ai,ci,xs[i],rfl,e0,e1,hx,?_⟩
 rcases h.row.2 with⟨hv,hl⟩|⟨k,cap,cur,hv,hb,hg,hn,hm,_,_⟩
 ·simp at hv
 ·simp only[Value.slice.injEq,Option.some.injEq,Addr.mk.injEq] at hv
  obtain⟨⟨rfl,rfl,_⟩,_,rfl⟩:=hv
  obtain⟨_,g2⟩:=gO vs i _ h1
  have e2:=World.ownsRow.cells h.row (g:=b) rfl _ _ g2
  have ea:∀j,(⟨b,0,none⟩:Addr).add j=⟨b,0+j,none⟩:=fun j=>by unfold Addr.add;split<;>simp_all
  rw[ea,←Nat.add_assoc] at e2
  rw[e2] at e1
  cases e1
  exact h2
theorem UK{w:World}{lo d j ci:Nat}{t:Int}{Ai B:Option Addr}{x:St ByteArray}{vs:List (Int×Value)}{xs:List (St ByteArray)}(hu:aK w lo (.slice Ai x.op.length ci) x.op)(hp:aY 30 w lo (.slice B xs.length d) vs xs)(hj:xs.length=j+1):
  f9 w lo ⟨t,x,xs.dropLast⟩ Ai x.op.length ci B j d:=by
 refine⟨fun w' hk=> ?_,hu,BI hu hp.row (by decide),z8 hp⟩
 obtain⟨A',c',e,h1,h2,h3,_⟩:=(hu.keep hk).form
 cases e
 obtain⟨B',d',e,h4,h5,h6,_⟩:=(hp.keep hk).form
 cases e
 refine⟨rfl,h1,h2,h3,by rw[List.length_dropLast,hj];rfl,by omega,h5,?_⟩
 rw[List.dropLast_eq_take]
 exact h6.take _
theorem SN(T:aL)(A B:Option Addr)(n c m d:Nat)(w:World)(hT:bN w T A n c B m d)(hs:cD T)(hok:dP T=true)(X:aL)(hX:gJ T 2 ⟨#[]⟩=some X):
  Calls Tryz.prog 61 #[.agg #[.int .i64 T.things,.int .i64 T.now.known,.slice A n c,.slice B m d],.agg #[.int .i64 2,.string ⟨#[]⟩]] w (rB X true w):=by
 obtain⟨j,hjl⟩:∃j,T.past.length=j+1:=by
  refine⟨T.past.length-1,?_⟩
  have:T.past≠[]:=fun e=>by
   unfold gJ cX at hX
   rw[if_pos rfl,if_pos (show(ByteArray.mk #[])=aH.none from rfl),e] at hX
   cases hX
  have:=List.length_pos_iff.2 this
  omega
 have HXX:Hid (∀x,T.past[j]? =some x→X=⟨T.things,x,T.past.dropLast⟩):=fun x hx=>by
  unfold gJ cX at hX
  rw[if_pos rfl,if_pos (show(ByteArray.mk #[])=aH.none from rfl),List.getLast?_eq_getElem?,hjl,Nat.add_sub_cancel,hx] at hX
  exact(Option.some.inj hX).symm
 have HJL:=zH hjl
 clear hX hjl
 obtain rfl:=hT.hn
 obtain rfl:=hT.pn
 obtain⟨HX0,HK0,HR0,HB0⟩:=rL w T.things T.now.known 2 ⟨#[]⟩ (.slice A T.now.op.length c) (.slice B T.past.length d)
 have HT:=zH hT
 have HS:=zH hs
 have hol:=hs.op
 have hpl:=hs.past
 obtain⟨t,ht⟩:∃t,T.things=t:=⟨_,rfl⟩
 obtain⟨q,hq⟩:∃q,T.now.known=q:=⟨_,rfl⟩
 have HTQ:Hid (T.things=t∧T.now.known=q):=⟨ht,hq⟩
 have HOK:Hid (∀W:World,Below w.heap.size w W→Calls Tryz.prog 13 #[.agg #[.int .i64 t,.int .i64 q,.slice A T.now.op.length c,.slice B T.past.length d]] W fun e w' =>e= .returned (.bool (dP T))∧Below W.heap.size W w'):=fun W h=>by
  have:=q7 T A B _ c _ d W (hT.below h) hs
  rw[ht,hq] at this;exact this
 have HCP:Hid (∀W:World,Below w.heap.size w W→w.heap.size+3≤W.heap.size→Calls Tryz.prog 60 #[.agg #[.int .i64 t,.int .i64 q,.slice A T.now.op.length c,.slice B T.past.length d]] W (tD T (w.heap.size+3) t q W)):=fun W h h2=>pF HTQ (hT.below h) hs h2
 rw[hok] at HOK
 rw[ht,hq] at HX0 HK0 HR0 HB0⊢
 have HOT:=zH hok
 clear hT hs ht hq hok
 go_enter Tryz.func61,Tryz.ntmps61
 go_wp2_with fail
 obtain⟨W0,hW0⟩:∃W,((w.alloc (.cells #[.int .i64 t,.int .i64 q,.slice A T.now.op.length c,.slice B T.past.length d] 33)).alloc (.cells #[.int .i64 2,.string ⟨#[]⟩] 41)).alloc (.cells #[.int .i64 0,.int .i64 0,.slice none 0 0,.slice none 0 0] 33)=W:=⟨_,rfl⟩
 rw[hW0] at HX0 HK0 HR0 HB0⊢
 clear hW0
 refine(HOK.out _ HB0.out).mono ?_
 rintro e w1 ⟨rfl,hb⟩
 have HX1:=zH (HX0.out.below hb)
 have HK1:=zH (HK0.out.below hb)
 have HR1:=zH (HR0.out.below hb)
 have HB1:=zH (aA HB0.out hb)
 clear hb HX0 HK0 HR0 HB0 HOK
 have hx0:=HX1.out.cell (i:=0) (v:= .int .i64 t) rfl
 have hx1:=HX1.out.cell (i:=1) (v:= .int .i64 q) rfl
 have hx2:=HX1.out.cell (i:=2) (v:= .slice A T.now.op.length c) rfl
 have hx3:=HX1.out.cell (i:=3) (v:= .slice B T.past.length d) rfl
 have hlo1:w.heap.size+3≤w1.heap.size:=by have:=HR1.out.lt;omega
 go_wp2_with fail
 refine(HCP.out _ HB1.out hlo1).mono ?_
 rintro e w2 ⟨A2,c2,B2,d2,vs,rfl,ho,hp,hb⟩
 obtain⟨g,hg⟩:∃g,w2.heap.size=g:=⟨_,rfl⟩
 have hsz2:w1.heap.size≤w2.heap.size:=hb.size
 have hD:iY w g [.int .i64 t,.int .i64 q,.slice A T.now.op.length c,.slice B T.past.length d] [.int .i64 2,.string ⟨#[]⟩] [.int .i64 t,.int .i64 q,.slice A2 T.now.op.length c2,.slice B2 T.past.length d2] (w2.alloc (.cells #[.int .i64 t,.int .i64 q,.slice A2 T.now.op.length c2,.slice B2 T.past.length d2] 33)):=by
  have:=aD.new w2 33 [.int .i64 t,.int .i64 q,.slice A2 T.now.op.length c2,.slice B2 T.past.length d2]
  rw[hg] at this
  exact⟨(HX1.out.below hb).alloc _,(HK1.out.below hb).alloc _,(HR1.out.below hb).alloc _,this,(aA HB1.out hb).alloc (aA HB1.out hb).size _,by omega⟩
 have hbn:Below w2.heap.size w2 (w2.alloc (.cells #[.int .i64 t,.int .i64 q,.slice A2 T.now.op.length c2,.slice B2 T.past.length d2] 33)):=(Below.refl _ _).alloc (Nat.le_refl _) _
 have HO:Hid (aK (w2.alloc (.cells #[.int .i64 t,.int .i64 q,.slice A2 T.now.op.length c2,.slice B2 T.past.length d2] 33)) (w.heap.size+3) (.slice A2 T.now.op.length c2) T.now.op):=ho.below hbn
 have HP:Hid (aY 30 (w2.alloc (.cells #[.int .i64 t,.int .i64 q,.slice A2 T.now.op.length c2,.slice B2 T.past.length d2] 33)) (w.heap.size+3) (.slice B2 T.past.length d2) vs T.past):=hp.below hbn
 have HLT:Hid ((∀k,(Value.slice A2 T.now.op.length c2).ownBlock=some k→k<g)∧∀k,(Value.slice B2 T.past.length d2).ownBlock=some k→k<g):=by
  refine⟨fun k hk=> ?_,fun k hk=> ?_⟩
  ·have:=(ho.lt hk).2;omega
  ·have:=(hp.lt hk).2;omega
 have HD:=zH hD
 clear hD ho hp hb hbn hsz2 hlo1 hx0 hx1 hx2 hx3 HX1 HK1 HR1 HB1 HCP
 go_upto_region 4 with fail
 obtain⟨w3,hw3⟩:∃w3,w2.alloc (.cells #[.int .i64 t,.int .i64 q,.slice A2 T.now.op.length c2,.slice B2 T.past.length d2] 33)=w3:=⟨_,rfl⟩
 rw[hw3] at HD HO HP⊢
 have HSZ:Hid (w3.heap.size=g+1):=by unfold Hid;rw[←hw3,World.size_alloc,hg]
 clear hw3 hg
 have hjlt:j<T.past.length:=by have:=HJL.out;omega
 have hji:(T.past.length:Int)-1=(j:Int):=by have:=HJL.out;omega
 obtain⟨b,off,Ai,ci,x,rfl,he0,he1,hx,hu⟩:=HP.out.elem hjlt
 have HXE:=zH (HXX.out x hx.out)
 have hd:decide (0<T.past.length)=true:=decide_eq_true (by omega)
 obtain⟨⟨hp0,hp1,hp2,hp3,hp4,hp5⟩,HD2⟩:=HD.out.put12 (.int .i64 x.known) (.slice Ai x.op.length ci)
 have HO2:=zH (hu.out.set12 HD.out.o (.int .i64 x.known) (.slice Ai x.op.length ci))
 have HP2:=zH (HP.out.set12 HD.out.o (.int .i64 x.known) (.slice Ai x.op.length ci))
 have hx0:=HD.out.x.cell (i:=0) (v:= .int .i64 t) rfl
 have hx1:=HD.out.x.cell (i:=1) (v:= .int .i64 q) rfl
 have hx2:=HD.out.x.cell (i:=2) (v:= .slice A T.now.op.length c) rfl
 have hx3:=HD.out.x.cell (i:=3) (v:= .slice B T.past.length d) rfl
 have hk0:=HD.out.d.cell (i:=0) (v:= .int .i64 2) rfl
 have hk1:=HD.out.d.cell (i:=1) (v:= .string ⟨#[]⟩) rfl
 have ho0:=HD.out.o.cell (i:=0) (v:= .int .i64 t) rfl
 have ho1:=HD.out.o.cell (i:=1) (v:= .int .i64 q) rfl
 have ho2:=HD.out.o.cell (i:=2) (v:= .slice A2 T.now.op.length c2) rfl
 have ho3:=HD.out.o.cell (i:=3) rfl
 go_upto_region 7 with fail
 obtain⟨w4,hw4⟩:∃w4,(w3.setCell ⟨g,1,none⟩ (.int .i64 x.known)).setCell ⟨g,2,none⟩ (.slice Ai x.op.length ci)=w4:=⟨_,rfl⟩
 rw[hw4] at HD2 HO2 HP2⊢
 clear hw4 hx0 hx1 hx2 hx3 hk0 hk1 ho0 ho1 ho2 ho3 hp0 hp1 hp2 hp3 hp4 hp5 he0 he1 hd HD HO HP hu
 obtain⟨⟨hq0,hq1⟩,HD3⟩:=HD2.out.put3 (.slice (some ⟨b,off,none⟩) j d2)
 have HO3:=zH (HO2.out.setBox (i:=3) (u:= .slice (some ⟨b,off,none⟩) j d2) HD2.out.o (by decide))
 have HP3:=zH (HP2.out.setBox (i:=3) (u:= .slice (some ⟨b,off,none⟩) j d2) HD2.out.o (by decide) (by decide))
 have hjd:j≤d2:=by
  obtain⟨_,_,e,h,_⟩:=HP2.out.form
  cases e
  omega
 go_upto_region 8 with fail
 obtain⟨w5,hw5⟩:∃w5,w4.setCell ⟨g,3,none⟩ (.slice (some ⟨b,off,none⟩) j d2)=w5:=⟨_,rfl⟩
 rw[hw5] at HD3 HO3 HP3⊢
 clear hw5 hq0 hq1 HD2 HO2 HP2
 have ho0:=HD3.out.o.cell (i:=0) rfl
 have ho1:=HD3.out.o.cell (i:=1) rfl
 have ho2:=HD3.out.o.cell (i:=2) rfl
 have ho3:=HD3.out.o.cell (i:=3) rfl
 obtain⟨⟨⟨ha0,ha1,ha2,ha3,ha4,ha5,ha6,ha7⟩,⟨hb2,hb3⟩,⟨hb4,hb5⟩,⟨hb6,hb7⟩⟩,HOUT,HIN,HBE⟩:=lX HD3.out (UK (t:=T.things) HO3.out HP3.out HJL.out)
 go_wp2_with fail
 refine bodyPost_ret_by (aU (b:=w.heap.size+2) rfl rfl rfl HOUT) rfl ⟨Ai,_,ci,_,_,d2,by rw[HXE.out];show _=Ending.returned (.tuple #[.agg #[.int .i64 T.things,_,_,_],_]);rw[HTQ.out.1];rfl,by rw[HXE.out];exact HIN.out,HBE.out⟩
end Go.Proofs.YtfhjcacfchkdpaaGreatDoor
