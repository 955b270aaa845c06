/-
  What the proofs of this seat's statements share (AppO, TlkU).
-/
import Derived.Lib.AppendZeros
import Derived.Deep.Upon
import Derived.Test.YtfhjcacfchkdpaaGreatDoorU19
set_option maxRecDepth 100000
set_option maxHeartbeats 32000000
namespace Go.Proofs.YtfhjcacfchkdpaaGreatDoor
open Go.RowKit
theorem tZ:(Tryz.prog.info? 30).map (fun i=>(i.zero,i.size,i.bytes))=some (some (.agg #[.int .i64 0,.slice none 0 0]),2,32):=by kernel_rfl
theorem eC{w:World}{b1 b2:Nat}{v p:Value}{xs:List ByteArray}{T:TypeId}{sz n:Nat}{cs:List Value}(h1:aK w b1 v xs)(h2:w.ownsRow b2 T sz p n cs)(hT:T≠9):v.ownBlock=none∨v.ownBlock≠p.ownBlock:=by
 rcases h1.2 with⟨rfl,_⟩|⟨g,cap,cur,rfl,_,hg,_⟩
 ·exact .inl rfl
 ·right
  rcases h2.2 with⟨rfl,_⟩|⟨g2,cap2,cur2,rfl,_,hg2,_⟩
  ·simp[Value.ownBlock]
  ·intro e
   simp only[Value.ownBlock,Option.some.injEq] at e
   rw[e] at hg
   rw[hg] at hg2
   cases hg2
   exact hT rfl
theorem E2{W:World}{base:Nat}{v:Value}{xs ys:List ByteArray}{ad:Option Addr}{m c:Nat}(ty:TypeId)(hown:aK W base v xs)(hm:m=ys.length)(hmc:m≤c)(hn:a7 W ad ys)(hl:xs.length+m≤4194304)(hb:base≤W.heap.size):
  ∃v' w',(Builtin.append_ #[28,28] ty #[v,.slice ad m c]).run Tryz.prog W= .ok v' w'∧aK w' base v' (xs++ys)∧W.grownBy w' v.ownBlock:=by
 subst hm
 obtain⟨i0,hi0,hz0,hz1,hz2⟩:=info_parts uN
 by_cases hz:ys.length=0
 ·obtain rfl:ys=[]:=List.eq_nil_of_length_eq_zero hz
  obtain⟨A,c2,rfl,hc2,_,_,_⟩:=hown.form
  refine⟨_,W,run_append_nothing W 28 28 ty 9 i0 Tryz.underlying28 hi0 A xs.length c2 hc2 _ ?_,by rw[List.append_nil];exact hown,World.grownBy.refl _ _⟩
  exact⟨.inl ⟨_,Tryz.underlying28⟩,fun _=>rfl,by cases ad<;>simp[Builtin.firstCells,loadCells,loadCellsFrom],by cases ad<;>simp[Builtin.firstCells,loadCells,loadCellsFrom],by simp,fun u hu=>by cases hu⟩
 ·obtain⟨b,off,rfl,_,hc⟩:=hn (by omega)
  obtain⟨v',w',hr,h1,h2,_⟩:=run_append_own (P:=Tryz.prog) W base 28 ty 9 i0 (.string ByteArray.empty) 1 16 Tryz.underlying28 hi0 hz0 hz1 hz2 rfl (by decide) v xs.length (xs.map (Value.string)) hown
   ⟨b,off,none⟩ ys.length c (ys.map (Value.string)) (by simp) (fun j u hj=>by
    rw[List.getElem?_map] at hj
    obtain⟨y,hy,rfl⟩:=Option.map_eq_some_iff.1 hj
    obtain⟨hlt,he⟩:=List.getElem?_eq_some_iff.1 hy
    have:=hc j hlt
    have e:(⟨b,off,none⟩:Addr).add j=⟨b,off+j,none⟩:=by unfold Addr.add;split<;>simp_all
    rw[e,this,List.getD_eq_getElem?_getD,hy];rfl) (fun u hu=>by obtain⟨y,_,rfl⟩:=List.mem_map.1 hu;rfl) (by simp only[maxLen];omega) (by omega) hb
  refine⟨v',w',hr,?_,h2⟩
  unfold aK
  rw[List.map_append,List.length_append]
  exact h1
theorem d0{W:World}{ops:Array Oper}{o:Oper}{a:Act}{K:Act→World→Prop}{Q:Exit→Act→World→Prop}{E:Prop}(hgd:o.guard=none)(s x:Operand)
  (ho:o.op= .call {callee:= .builtin .append,args:= #[s,x],argTypes:= #[28,28]}) (base:Nat) (v:Value) (xs ys:List ByteArray) (hs:a.eval s=v) (hown:aK W base v xs)
  (ad:Option Addr) (m c:Nat) (hx:a.eval x= .slice ad m c) (hm:m=ys.length) (hmc:m≤c) (hn:a7 W ad ys) (hl:xs.length+m≤4194304) (hb:base≤W.heap.size)
  (h:∀v' w',aK w' base v' (xs++ys)→W.grownBy w' v.ownBlock→K (a.put o.dst v') w'):
  if Region.wanted o (yielded ops a.tmps)=true then Oper.wp Tryz.prog o a W K Q else E:=by
 have hw:Region.wanted o (yielded ops a.tmps)=true:=by simp[Region.wanted,hgd]
 rw[if_pos hw]
 obtain⟨v',w',hr,h1,h2⟩:=E2 o.type hown hm hmc hn hl hb
 exact Lib.wp_append_run W s x _ _ ho _ _ hs hx v' w' hr (h v' w' h1 h2)
theorem oH(W:World)(y:ByteArray):a7 (W.alloc (.cells #[.string y] 9)) (some ⟨W.heap.size,0,none⟩) [y]:=by
 intro _
 refine⟨W.heap.size,0,rfl,by rw[World.size_alloc];omega,fun i hi=> ?_⟩
 obtain rfl:i=0:=by simpa using hi
 exact(Boxed.new W 9 (.string y)).cell
theorem aK.drewN{w:World}{base:Nat}{v:Value}{xs:List ByteArray}(h:aK w base v xs)(n:Nat):aK (w.drewN n) base v xs:=h
theorem F8{W:World}{base:Nat}{v o:Value}{vs:List (Int×Value)}{xs:List (St ByteArray)}{x:St ByteArray}(ty:TypeId)(hown:aY 30 W base v vs xs)(ho:aK W base o x.op)(hl:xs.length≤1048576)(hb:base≤W.heap.size)(hap:o.ownBlock=none∨o.ownBlock≠v.ownBlock):
  ∃v' w',(Builtin.append_ #[31,31] ty #[v,.slice (some ⟨W.heap.size,0,none⟩) 1 1]).run Tryz.prog (W.alloc (.cells #[.int .i64 x.known,o] 30))= .ok v' w'∧
   aY 30 w' base v' (vs++[(x.known,o)]) (xs++[x])∧(W.alloc (.cells #[.int .i64 x.known,o] 30)).grownBy w' v.ownBlock:=by
 obtain⟨i0,hi0,hz0,hz1,hz2⟩:=info_parts tZ
 have hvl:=hown.sees.len
 obtain⟨v',w',hr,h1,h2,_⟩:=run_append_own (P:=Tryz.prog) (W.alloc (.cells #[.int .i64 x.known,o] 30)) base 31 ty 30 i0 (.agg #[.int .i64 0,.slice none 0 0]) 2 32 Tryz.underlying31 hi0 hz0 hz1 hz2 rfl (by decide) v vs.length (bQ vs) (World.ownsRow.alloc hown.row _)
  ⟨W.heap.size,0,none⟩ 1 1 [.int .i64 x.known,o] rfl (cell_two_new _ _ _ _) (fun u hu=>by
   rw[List.mem_cons,List.mem_singleton] at hu
   rcases hu with rfl|rfl
   ·rfl
   ·obtain⟨A,c,rfl,_⟩:=ho.form
    rfl) (by simp only[maxLen];omega) (by omega) (by rw[World.size_alloc];omega)
 have hrow:w'.ownsRow base 30 2 v' (vs++[(x.known,o)]).length (bQ (vs++[(x.known,o)])):=by
  rw[qH,List.length_append]
  exact h1
 have hkeep:∀(u:Value) (ys:List ByteArray),aK W base u ys→(u.ownBlock=none∨u.ownBlock≠v.ownBlock)→aK w' base u ys:=fun u ys hu hne=>
  (hu.below ((Below.refl _ _).alloc (Nat.le_refl _) _)).kept h2 hne
 refine⟨v',w',hr,⟨hrow,by rw[List.length_append,List.length_append,hvl];rfl,fun i y hy=> ?_⟩,h2⟩
 by_cases hi:i<xs.length
 ·rw[List.getElem?_append_left hi] at hy
  obtain⟨u,hu1,hu2,hu3⟩:=hown.sees.at_ i y hy
  have hk:=hkeep u _ hu2 hu3
  exact⟨u,by rw[List.getElem?_append_left (by omega)];exact hu1,hk,eC hk hrow (by decide)⟩
 ·have hi2:i=xs.length:=by
   have:=(List.getElem?_eq_some_iff.1 hy).1
   simp at this;omega
  subst hi2
  rw[List.getElem?_append_right (Nat.le_refl _),Nat.sub_self] at hy
  cases hy
  have hk:=hkeep o _ ho hap
  exact⟨o,by rw[List.getElem?_append_right (by omega),hvl,Nat.sub_self];rfl,hk,eC hk hrow (by decide)⟩
theorem F7{W:World}{ops:Array Oper}{rest:List Oper}{op:Oper}{a:Act}{Q:Exit→Act→World→Prop}(hgd:op.guard=none)(s y:Operand)
  (hop:op.op= .call {callee:= .builtin .append,args:= #[s,y],argTypes:= #[31,31]}) (base:Nat) (v o:Value) (vs:List (Int×Value)) (xs:List (St ByteArray)) (x:St ByteArray) (hs:a.eval s=v) (hown:aY 30 W base v vs xs) (ho:aK W base o x.op)
  (hy:a.eval y= .slice (some ⟨W.heap.size,0,none⟩) 1 1) (hl:xs.length≤1048576) (hb:base≤W.heap.size) (hap:o.ownBlock=none∨o.ownBlock≠v.ownBlock)
  (h:∀v' w',aY 30 w' base v' (vs++[(x.known,o)]) (xs++[x])→(W.alloc (.cells #[.int .i64 x.known,o] 30)).grownBy w' v.ownBlock→wpList Tryz.prog ops Q rest (a.put op.dst v') w'):
  wpList Tryz.prog ops Q (op::rest) a (W.alloc (.cells #[.int .i64 x.known,o] 30)):=by
 obtain⟨v',w',hr,h1,h2⟩:=F8 op.type hown ho hl hb hap
 exact Lib.wpList_append_run _ hgd s y _ _ hop _ _ hs hy v' w' hr (h v' w' h1 h2)
theorem mP{W:World}{ops:Array Oper}{op:Oper}{a:Act}{K:Act→World→Prop}{Q:Exit→Act→World→Prop}{E:Prop}(hgd:op.guard=none)(s y:Operand)
  (hop:op.op= .call {callee:= .builtin .append,args:= #[s,y],argTypes:= #[31,31]}) (base:Nat) (v o:Value) (vs:List (Int×Value)) (xs:List (St ByteArray)) (x:St ByteArray) (hs:a.eval s=v) (hown:aY 30 W base v vs xs) (ho:aK W base o x.op)
  (hy:a.eval y= .slice (some ⟨W.heap.size,0,none⟩) 1 1) (hl:xs.length≤1048576) (hb:base≤W.heap.size) (hap:o.ownBlock=none∨o.ownBlock≠v.ownBlock)
  (h:∀v' w',aY 30 w' base v' (vs++[(x.known,o)]) (xs++[x])→(W.alloc (.cells #[.int .i64 x.known,o] 30)).grownBy w' v.ownBlock→K (a.put op.dst v') w'):
  if Region.wanted op (yielded ops a.tmps)=true then Oper.wp Tryz.prog op a (W.alloc (.cells #[.int .i64 x.known,o] 30)) K Q else E:=by
 have hw:Region.wanted op (yielded ops a.tmps)=true:=by simp[Region.wanted,hgd]
 rw[if_pos hw]
 obtain⟨v',w',hr,h1,h2⟩:=F8 op.type hown ho hl hb hap
 exact Lib.wp_append_run _ s y _ _ hop _ _ hs hy v' w' hr (h v' w' h1 h2)
theorem aY.lt{e:TypeId}{w:World}{base:Nat}{v:Value}{vs:List (Int×Value)}{xs:List (St ByteArray)}(h:aY e w base v vs xs){k:Nat}(hk:v.ownBlock=some k):base≤k∧k<w.heap.size:=World.ownsRow.lt h.row k hk
theorem aK.lt{w:World}{base:Nat}{v:Value}{xs:List ByteArray}(h:aK w base v xs){k:Nat}(hk:v.ownBlock=some k):base≤k∧k<w.heap.size:=World.ownsRow.lt h k hk
structure bN (w:World) (T:aL) (A:Option Addr) (n c:Nat) (B:Option Addr) (m d:Nat):Prop where
 hn:n=T.now.op.length
 hc:n≤c
 hm:c≤maxLen
 hA:a7 w A T.now.op
 pn:m=T.past.length
 pc:m≤d
 pm:d≤maxLen
 hB:b6 w B T.past
structure cD (T:aL):Prop where
 op:T.now.op.length≤1048576
 past:T.past.length≤1048576
 txt:∀s∈T.now.op,s.size≤1048576
 ops:∀x∈T.past,x.op.length≤1048576∧∀s∈x.op,s.size≤1048576
theorem bN.below{w w' :World}{T:aL}{A B:Option Addr}{n c m d:Nat}(h:bN w T A n c B m d)(hb:Below w.heap.size w w'):bN w' T A n c B m d:=
 ⟨h.hn,h.hc,h.hm,h.hA.below hb,h.pn,h.pc,h.pm,h.hB.below hb⟩
theorem bN.drewN{w:World}{T:aL}{A B:Option Addr}{n c m d:Nat}(h:bN w T A n c B m d)(k:Nat):bN (w.drewN k) T A n c B m d:=
 ⟨h.hn,h.hc,h.hm,h.hA.drewN k,h.pn,h.pc,h.pm,h.hB.drewN k⟩
def aX(lo:Nat)(w w' :World):Prop:=w.heap.size≤w'.heap.size∧∀b,lo≤b→b<w.heap.size→w'.heap[b]? =w.heap[b]?
theorem aX.refl(lo:Nat)(w:World):aX lo w w:=⟨Nat.le_refl _,fun _ _ _=>rfl⟩
theorem aX.below{lo:Nat}{w w1 w2:World}(h:aX lo w w1)(hb:Below w1.heap.size w1 w2):aX lo w w2:=
 ⟨Nat.le_trans h.1 hb.size,fun b h1 h2=>(hb.block b (Nat.lt_of_lt_of_le h2 h.1)).trans (h.2 b h1 h2)⟩
theorem aX.trans{lo lo2:Nat}{w w1 w2:World}(h:aX lo w w1)(hb:aX lo2 w1 w2)(hl:lo2≤lo):aX lo w w2:=
 ⟨Nat.le_trans h.1 hb.1,fun b h1 h2=>(hb.2 b (by omega) (Nat.lt_of_lt_of_le h2 h.1)).trans (h.2 b h1 h2)⟩
theorem aX.of_below{lo:Nat}{w w' :World}(hb:Below w.heap.size w w'):aX lo w w' :=(aX.refl lo w).below hb
def dL(w:World)(lo:Nat)(T:aL)(A:Option Addr)(n c:Nat)(B:Option Addr)(m d:Nat):Prop:=∀w',aX lo w w'→bN w' T A n c B m d
theorem dL.at_{w:World}{lo:Nat}{T:aL}{A B:Option Addr}{n c m d:Nat}(h:dL w lo T A n c B m d):bN w T A n c B m d:=h w (aX.refl _ _)
theorem dL.keep{w w' :World}{lo:Nat}{T:aL}{A B:Option Addr}{n c m d:Nat}(h:dL w lo T A n c B m d)(hk:aX lo w w'):dL w' lo T A n c B m d:=fun w2 h2=>h w2 (hk.trans h2 (Nat.le_refl _))
theorem dL.below{w w' :World}{lo:Nat}{T:aL}{A B:Option Addr}{n c m d:Nat}(h:dL w lo T A n c B m d)(hb:Below w.heap.size w w'):dL w' lo T A n c B m d:=h.keep (aX.of_below hb)
theorem dL.base{w:World}{lo lo2:Nat}{T:aL}{A B:Option Addr}{n c m d:Nat}(h:dL w lo T A n c B m d)(hl:lo2≤lo):dL w lo2 T A n c B m d:=fun w2 h2=>h w2 ⟨h2.1,fun b h3 h4=>h2.2 b (by omega) h4⟩
theorem aK.keep{w w' :World}{lo:Nat}{v:Value}{xs:List ByteArray}(h:aK w lo v xs)(hk:aX lo w w'):aK w' lo v xs:=by
 refine⟨h.1,?_⟩
 rcases h.2 with h|⟨g,cap,cur,h1,h2,h3,h4⟩
 ·exact .inl h
 ·exact .inr ⟨g,cap,cur,h1,h2,(hk.2 g h2 (Array.getElem?_eq_some_iff.1 h3).1).trans h3,h4⟩
theorem aY.keep{e:TypeId}{w w' :World}{lo:Nat}{v:Value}{vs:List (Int×Value)}{xs:List (St ByteArray)}(h:aY e w lo v vs xs)(hk:aX lo w w'):aY e w' lo v vs xs:=by
 refine⟨⟨h.row.1,?_⟩,h.sees.len,fun i x hx=>by obtain⟨u,h1,h2,h3⟩:=h.sees.at_ i x hx;exact⟨u,h1,h2.keep hk,h3⟩⟩
 rcases h.row.2 with h|⟨g,cap,cur,h1,h2,h3,h4⟩
 ·exact .inl h
 ·exact .inr ⟨g,cap,cur,h1,h2,(hk.2 g h2 (Array.getElem?_eq_some_iff.1 h3).1).trans h3,h4⟩
theorem qO{w:World}{lo:Nat}{T:aL}{o p:Value}{vs:List (Int×Value)}(ho:aK w lo o T.now.op)(hp:aY 30 w lo p vs T.past):
  ∃A c B d,o= .slice A T.now.op.length c∧p= .slice B T.past.length d∧dL w lo T A T.now.op.length c B T.past.length d:=by
 obtain⟨A,c,rfl,h1,h2,_,_⟩:=ho.form
 obtain⟨B,d,rfl,h3,h4,_,_⟩:=hp.form
 refine⟨A,c,B,d,rfl,rfl,fun w' hk=> ?_⟩
 obtain⟨A',c',e,_,_,h5,_⟩:=(ho.keep hk).form
 obtain⟨B',d',e2,_,_,h6,_⟩:=(hp.keep hk).form
 simp only[Value.slice.injEq] at e e2
 obtain⟨rfl,_,rfl⟩:=e
 obtain⟨rfl,_,rfl⟩:=e2
 exact⟨rfl,h1,h2,h5,rfl,h3,h4,h6⟩
theorem QJ{T:aL}{x:St ByteArray}(hm:x∈T.past)(h:bC aH T.things x=false):dP T=false:=by
 cases hT:dP T with
 |false=>rfl
 |true=>
  have:=((cT aH).1 hT).2.2 x hm
  rw[h] at this;cases this
theorem QM{T:aL}(h:∀x∈T.past,bC aH T.things x=true):dP T=(bC aH T.things T.now&&decide (T.past.length≤10)):=by
 unfold dP dX
 rw[show(T.past.all (bC aH T.things))=true from List.all_eq_true.2 h,Bool.and_true]
theorem t6{t k:Int}{xs:List ByteArray}{b:Bool}(h:Hid (bC aH t ⟨k,xs⟩=b))(A:Option Addr)(n c:Nat)(w:World)(hn:n=xs.length)(hl:n≤1048576)(hA:a7 w A xs)(hs:∀s∈xs,s.size≤1048576):
  Calls Tryz.prog 49 #[.int .i64 t,.agg #[.int .i64 k,.slice A n c]] w fun e w' =>e= .returned (.bool b)∧Below w.heap.size w w' :=by
 have:=UA t k A n c xs w hn hl hA hs
 rw[h.out] at this;exact this
theorem q7(T:aL)(A B:Option Addr)(n c m d:Nat)(w:World)(hT:bN w T A n c B m d)(hs:cD T):
  Calls Tryz.prog 13 #[.agg #[.int .i64 T.things,.int .i64 T.now.known,.slice A n c,.slice B m d]] w fun e w' =>e= .returned (.bool (dP T))∧Below w.heap.size w w' :=by
 have HX0:Hid (aD (w.alloc (.cells #[.int .i64 T.things,.int .i64 T.now.known,.slice A n c,.slice B m d] 33)) w.heap.size 33 [.int .i64 T.things,.int .i64 T.now.known,.slice A n c,.slice B m d]):=aD.new w _ _
 have HB0:Hid (Below w.heap.size w (w.alloc (.cells #[.int .i64 T.things,.int .i64 T.now.known,.slice A n c,.slice B m d] 33))):=(Below.refl _ _).alloc (Nat.le_refl _) _
 have HT:=zH hT
 have HS:=zH hs
 obtain rfl:=hT.pn
 have hml:T.past.length≤1048576:=hs.past
 have HBAD:Hid (∀x∈T.past,bC aH T.things x=false→dP T=false):=fun x h1 h2=>QJ h1 h2
 have HEND:=zH (QM (T:=T))
 obtain⟨R,HR⟩:∃R,Hid (dP T=R):=⟨_,rfl⟩
 rw[HR.out] at HBAD HEND⊢
 obtain⟨t,ht⟩:∃t,T.things=t:=⟨_,rfl⟩
 obtain⟨q,hq⟩:∃q,T.now.known=q:=⟨_,rfl⟩
 rw[ht,hq] at HX0 HB0
 rw[ht] at HBAD HEND
 rw[ht,hq]
 have HNOW:Hid (T.now=⟨q,T.now.op⟩):=by unfold Hid;rw[←hq]
 clear hT hs
 clear ht hq
 go_enter Tryz.func13,Tryz.ntmps13
 go_wp2_with fail
 obtain⟨W0,hW0⟩:∃W,w.alloc (.cells #[.int .i64 t,.int .i64 q,.slice A n c,.slice B T.past.length d] 33)=W:=⟨_,rfl⟩
 rw[hW0] at HX0 HB0⊢
 clear hW0
 go_loopw [3] (fun i wr=>∃j:Nat,j≤T.past.length∧i= .int .i64 j∧Hid (∀i x,i<j→T.past[i]? =some x→bC aH t x=true)∧Hid (aD wr w.heap.size 33 [.int .i64 t,.int .i64 q,.slice A n c,.slice B T.past.length d])∧Hid (Below w.heap.size w wr)) (fun i _=>T.past.length-(Go.RowKit.intOf i).toNat)
 case atStart=>exact⟨0,Nat.zero_le _,rfl,(fun i x h=>by omega),HX0,HB0⟩
 case round=>
  obtain⟨j,hj,rfl,HG,HX,HB⟩:=hrel
  have hc0:=HX.out.cell (i:=0) (v:= .int .i64 t) rfl
  have hc1:=HX.out.cell (i:=1) (v:= .int .i64 q) rfl
  have hc2:=HX.out.cell (i:=2) (v:= .slice A n c) rfl
  have hc3:=HX.out.cell (i:=3) (v:= .slice B T.past.length d) rfl
  by_cases hlt:j<T.past.length
  ·obtain⟨b,off,Ai,ci,x,rfl,he0,he1,hle,hmi,hx,hA,hbl⟩:=(HT.out.hB.below HB.out).elem hlt
   obtain⟨hxl,hxs⟩:=HS.out.ops x (List.mem_of_getElem? hx.out)
   obtain⟨k,hk⟩:∃k,x.known=k:=⟨_,rfl⟩
   rw[hk] at he0
   have HKX:Hid (x=⟨k,x.op⟩):=by unfold Hid;rw[←hk]
   have HXS:=zH hxs
   obtain⟨v,HV⟩:∃v,Hid (bC aH t ⟨k,x.op⟩=v):=⟨_,rfl⟩
   have HV2:Hid (bC aH t x=v):=by unfold Hid;rw[HKX.out];exact HV.out
   have HST:Hid (∀W:World,a7 W Ai x.op→Calls Tryz.prog 49 #[.int .i64 t,.agg #[.int .i64 k,.slice Ai x.op.length ci]] W fun e w' =>e= .returned (.bool v)∧Below W.heap.size W w'):=fun W h=>t6 HV Ai x.op.length ci W rfl hxl h HXS.out
   clear hk hxs
   go_wp2_with fail
   go_region_held3 (fun w' =>w'.cell? ⟨w.heap.size,0,none⟩=some (.int .i64 t)∧w'.cell? ⟨w.heap.size,3,none⟩=some (.slice (some ⟨b,off,none⟩) T.past.length d)∧w'.cell? ⟨b,off+j*2,none⟩=some (.int .i64 k)∧w'.cell? ⟨b,off+j*2+1,none⟩=some (.slice Ai x.op.length ci))
    (first|go_keep|exact⟨hc0,hc3,he0,he1⟩|exact HK1.out)
    (first|(go_at_call 49;refine(HST.out _ (hA.out.drewN 1)).mono ?_;rintro e w1 ⟨rfl,hb⟩;have HX1:=zH (aD.below (by exact aD.drew HX.out) hb);have HK1:=zH (And.intro (HX1.out.cell (i:=0) (v:= .int .i64 t) rfl) (And.intro (HX1.out.cell (i:=3) (v:= .slice (some ⟨b,off,none⟩) T.past.length d) rfl) (And.intro (((Below.cell hb (p:=⟨b,off+j*2,none⟩)) hbl.out).trans he0) (((Below.cell hb (p:=⟨b,off+j*2+1,none⟩)) hbl.out).trans he1))));have HB1:=zH (aA (aE HB.out 1) hb);clear hb))
   all_goals
    cases v
    ·have HRF:=zH (HBAD.out x (List.mem_of_getElem? hx.out) HV2.out)
     go_wp2_with fail
     go_ret
     exact⟨by rw[HRF.out]<;>rfl,HB1.out⟩
    ·have HGN:Hid (∀i x,i<j+1→T.past[i]? =some x→bC aH t x=true):=by
      intro i y hi hy
      by_cases e:i=j
      ·subst e
       rw[hx.out] at hy;cases hy;exact HV2.out
      ·exact HG.out i y (by omega) hy
     clear hc0 hc1 hc2 hc3 he0 he1
     go_wp2_with fail
     go_roundw
     case rel=>exact⟨j+1,by omega,by go_num,HGN,HX1,HB1⟩
     case measure=>simp[Go.RowKit.intOf];omega
  ·obtain rfl:j=T.past.length:=by omega
   have HALL:Hid (∀x∈T.past,bC aH t x=true):=fun x hx=>by
    obtain⟨i,hi⟩:=List.mem_iff_getElem?.1 hx
    exact HG.out i x (List.getElem?_eq_some_iff.1 hi).1 hi
   have HRF:=zH (HEND.out HALL.out)
   obtain⟨v,HV⟩:∃v,Hid (bC aH t ⟨q,T.now.op⟩=v):=⟨_,rfl⟩
   rw[HNOW.out,HV.out] at HRF
   have HST:Hid (∀W:World,a7 W A T.now.op→Calls Tryz.prog 49 #[.int .i64 t,.agg #[.int .i64 q,.slice A n c]] W fun e w' =>e= .returned (.bool v)∧Below W.heap.size W w'):=fun W h=>t6 HV A n c W HT.out.hn (by rw[HT.out.hn];exact HS.out.op) h HS.out.txt
   have HN4:Hid (decide ((T.past.length:Int)≤10)=decide (T.past.length≤10)):=by unfold Hid;rw[Bool.eq_iff_iff,decide_eq_true_iff,decide_eq_true_iff];omega
   have HAW:=zH (HT.out.hA.below HB.out)
   cases v
   ·go_wp2_with (go_at_call 49;refine(HST.out _ HAW.out).mono ?_;rintro e w1 ⟨rfl,hb⟩;have HB1:=zH (aA HB.out hb);clear hb hc0 hc1 hc2 hc3)
    go_ret
    exact⟨by rw[HRF.out]<;>rfl,HB1.out⟩
   ·rw[Bool.true_and] at HRF
    go_wp2_with (go_at_call 49;refine(HST.out _ HAW.out).mono ?_;rintro e w1 ⟨rfl,hb⟩;have HB1:=zH (aA HB.out hb);replace HX:=zH (HX.out.below hb);clear hb hc0 hc1 hc2 hc3;have hc3:=HX.out.cell (i:=3) (v:= .slice B T.past.length d) rfl)
    go_ret
    exact⟨aM (by rw[HRF.out,←HN4.out]),HB1.out⟩
end Go.Proofs.YtfhjcacfchkdpaaGreatDoor
