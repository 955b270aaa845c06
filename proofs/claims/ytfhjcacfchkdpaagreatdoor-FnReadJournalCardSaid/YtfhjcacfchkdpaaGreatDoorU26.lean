/-
  What the proofs of this seat's statements share (MrkX, MrkY, TlkZ).
-/
import Derived.Lib.SliceRun
import Derived.IntWalk
import Derived.Test.YtfhjcacfchkdpaaGreatDoorU25
set_option maxRecDepth 100000
set_option maxHeartbeats 32000000
namespace Go.Proofs.YtfhjcacfchkdpaaGreatDoor
open Go.RowKit
structure d7 (P:Nat→Prop) (w w' :World):Prop where
 os:w'.os=w.os
 tape:w'.tape=w.tape
 output:w'.output=w.output
 size:w.heap.size≤w'.heap.size
 block:∀k,k<w.heap.size→¬P k→w'.heap[k]? =w.heap[k]?
theorem d7.refl(P:Nat→Prop)(w:World):d7 P w w:=⟨rfl,rfl,rfl,Nat.le_refl _,fun _ _ _=>rfl⟩
theorem d7.trans{P:Nat→Prop}{w w1 w2:World}(h:d7 P w w1)(h2:d7 P w1 w2):d7 P w w2:=
 ⟨h2.os.trans h.os,h2.tape.trans h.tape,h2.output.trans h.output,Nat.le_trans h.size h2.size,fun k hk hp=>(h2.block k (Nat.lt_of_lt_of_le hk h.size) hp).trans (h.block k hk hp)⟩
theorem d7.of_below{P:Nat→Prop}{w w' :World}(h:Below w.heap.size w w'):d7 P w w' :=⟨h.os,h.tape,h.output,h.size,fun k hk _=>h.block k hk⟩
theorem d7.below{P:Nat→Prop}{w0 w w' :World}{lo:Nat}(hb:Below lo w0 w)(h:d7 P w w')(hl:lo≤w.heap.size)(hp:∀k,P k→lo≤k):Below lo w0 w' :=
 ⟨h.os.trans hb.os,h.tape.trans hb.tape,h.output.trans hb.output,Nat.le_trans hb.size h.size,fun k hk=>(h.block k (by omega) fun e=>by have:=hp k e;omega).trans (hb.block k hk)⟩
def mE(w:World)(lo:Nat)(o p:Value)(vs:List (Int×Value))(os:List ByteArray)(xs:List (St ByteArray)):Prop:=aK w lo o os∧aY 30 w lo p vs xs∧pE o vs
theorem KA{w:World}{base:Nat}{v:Value}{vs:List (Int×Value)}{xs:List (St ByteArray)}(h:w.ownsRow base 30 2 v vs.length (bQ vs))(hp:dM w vs xs):
  ∃B d,v= .slice B xs.length d∧xs.length≤d∧d≤maxLen∧b6 w B xs:=by
 have hcells:=fun g=>World.ownsRow.cells h (g:=g)
 rcases h.2 with⟨rfl,hl⟩|⟨g,cap,cur,rfl,hb,hg,hn,hm,_,_⟩
 ·have hn:xs.length=0:=by rw[←hp.1];exact hl
  exact⟨none,0,by rw[hn],by omega,Nat.zero_le _,fun h=>by omega⟩
 ·refine⟨some ⟨g,0,none⟩,cap,by rw[←hp.1],by rw[←hp.1];exact hn,hm,fun hpos=>⟨g,0,rfl,(Array.getElem?_eq_some_iff.1 hg).1,fun i x hx=> ?_⟩⟩
  obtain⟨A,c,h1,h2,h3,h4⟩:=hp.2 i x hx
  obtain⟨e1,e2⟩:=gO vs i _ h1
  have f1:=hcells g rfl _ _ e1
  have f2:=hcells g rfl _ _ e2
  have ea:∀j,(⟨g,0,none⟩:Addr).add j=⟨g,0+j,none⟩:=fun j=>by unfold Addr.add;split<;>simp_all
  rw[ea] at f1 f2
  exact⟨A,c,f1,by rw[Nat.add_assoc];exact f2,h2,h3,h4⟩
theorem EI{w w' :World}{base lo n sz:Nat}{e:TypeId}{v:Value}{cs:List Value}(h:w.ownsRow base e sz v n cs)(hlo:lo≤base)(hk:aX lo w w'):w'.ownsRow base e sz v n cs:=by
 refine⟨h.1,?_⟩
 rcases h.2 with h|⟨g,cap,cur,h1,h2,h3,h4⟩
 ·exact .inl h
 ·exact .inr ⟨g,cap,cur,h1,h2,(hk.2 g (by omega) (Array.getElem?_eq_some_iff.1 h3).1).trans h3,h4⟩
theorem PF{R:World→Prop}{w2:World}{base lo:Nat}{v:Value}{vs:List (Int×Value)}{xs:List (St ByteArray)}(h:w2.ownsRow base 30 2 v vs.length (bQ vs))(hlo:lo≤base)(hp:∀W,R W→dM W vs xs)(hb:R w2):
  ∃B d,v= .slice B xs.length d∧xs.length≤d∧d≤maxLen∧∀w',R w'→aX lo w2 w'→b6 w' B xs:=by
 obtain⟨B,d,e,h1,h2,_⟩:=KA h (hp _ hb)
 refine⟨B,d,e,h1,h2,fun w' hb' hk=> ?_⟩
 obtain⟨B',d',e',_,_,h3⟩:=KA (EI h hlo hk) (hp _ hb')
 rw[e] at e'
 cases e'
 exact h3
theorem yI{W:World}{base:Nat}{v:Value}{us vs:List (Int×Value)}{xs:List (St ByteArray)}{W' :World}{ad:Option Addr}{m c:Nat}(ty:TypeId)(hown:W.ownsRow base 30 2 v us.length (bQ us))(hm:m=vs.length)(hp:dM W' vs xs)
  (hn:0<m→∃b off,ad=some ⟨b,off,none⟩∧∀(j:Nat) (u:Value),(bQ vs)[j]? =some u→W.cell? ⟨b,off+j,none⟩=some u) (hl:us.length+m≤1048576) (hb:base≤W.heap.size):
  ∃v' w',(Builtin.append_ #[31,31] ty #[v,.slice ad m c]).run Tryz.prog W= .ok v' w'∧w'.ownsRow base 30 2 v' (us++vs).length (bQ (us++vs))∧W.grownBy w' v.ownBlock:=by
 subst hm
 obtain⟨i0,hi0,hz0,hz1,hz2⟩:=info_parts tZ
 by_cases hz:vs.length=0
 ·obtain rfl:vs=[]:=List.eq_nil_of_length_eq_zero hz
  rw[List.append_nil]
  rcases hown.2 with⟨rfl,hl0⟩|⟨g,cap,cur,rfl,_,_,hcn,_⟩
  ·refine⟨_,W,run_append_nothing W 31 31 ty 30 i0 Tryz.underlying31 hi0 none 0 0 (Nat.le_refl _) _ ?_,hown,World.grownBy.refl _ _⟩
   exact⟨.inl ⟨_,Tryz.underlying31⟩,fun _=>rfl,by cases ad<;>simp[Builtin.firstCells,loadCells,loadCellsFrom],by cases ad<;>simp[Builtin.firstCells,loadCells,loadCellsFrom],by simp,fun u hu=>by cases hu⟩
  ·refine⟨_,W,run_append_nothing W 31 31 ty 30 i0 Tryz.underlying31 hi0 (some ⟨g,0,none⟩) us.length cap hcn _ ?_,hown,World.grownBy.refl _ _⟩
   exact⟨.inl ⟨_,Tryz.underlying31⟩,fun _=>rfl,by cases ad<;>simp[Builtin.firstCells,loadCells,loadCellsFrom],by cases ad<;>simp[Builtin.firstCells,loadCells,loadCellsFrom],by simp,fun u hu=>by cases hu⟩
 ·obtain⟨b,off,rfl,hc⟩:=hn (by omega)
  obtain⟨v',w',hr,h1,h2,_⟩:=run_append_own (P:=Tryz.prog) W base 31 ty 30 i0 (.agg #[.int .i64 0,.slice none 0 0]) 2 32 Tryz.underlying31 hi0 hz0 hz1 hz2 rfl (by decide) v us.length (bQ us) hown
   ⟨b,off,none⟩ vs.length c (bQ vs) (nO vs) (fun j u hj=>by
    have e:(⟨b,off,none⟩:Addr).add j=⟨b,off+j,none⟩:=by unfold Addr.add;split<;>simp_all
    rw[e];exact hc j u hj) hp.one (by simp only[maxLen];omega) (by omega) hb
  exact⟨v',w',hr,by rw[List.length_append,qH];exact h1,h2⟩
theorem IK{W:World}{ops:Array Oper}{rest:List Oper}{op:Oper}{a:Act}{Q:Exit→Act→World→Prop}(hgd:op.guard=none)(s y:Operand)
  (hop:op.op= .call {callee:= .builtin .append,args:= #[s,y],argTypes:= #[31,31]}) (base:Nat) (v:Value) (us vs:List (Int×Value)) (xs:List (St ByteArray)) (W' :World) (ad:Option Addr) (m c:Nat) (hs:a.eval s=v) (hown:W.ownsRow base 30 2 v us.length (bQ us))
  (hy:a.eval y= .slice ad m c) (hm:m=vs.length) (hp:dM W' vs xs) (hn:0<m→∃b off,ad=some ⟨b,off,none⟩∧∀(j:Nat) (u:Value),(bQ vs)[j]? =some u→W.cell? ⟨b,off+j,none⟩=some u) (hl:us.length+m≤1048576) (hb:base≤W.heap.size)
  (h:∀v' w',w'.ownsRow base 30 2 v' (us++vs).length (bQ (us++vs))→W.grownBy w' v.ownBlock→wpList Tryz.prog ops Q rest (a.put op.dst v') w'):wpList Tryz.prog ops Q (op::rest) a W:=by
 obtain⟨v',w',hr,h1,h2⟩:=yI op.type hown hm hp hn hl hb
 exact Lib.wpList_append_run _ hgd s y _ _ hop _ _ hs hy v' w' hr (h v' w' h1 h2)
theorem o5{W:World}{ops:Array Oper}{op:Oper}{a:Act}{K:Act→World→Prop}{Q:Exit→Act→World→Prop}{E:Prop}(hgd:op.guard=none)(s y:Operand)
  (hop:op.op= .call {callee:= .builtin .append,args:= #[s,y],argTypes:= #[31,31]}) (base:Nat) (v:Value) (us vs:List (Int×Value)) (xs:List (St ByteArray)) (W' :World) (ad:Option Addr) (m c:Nat) (hs:a.eval s=v) (hown:W.ownsRow base 30 2 v us.length (bQ us))
  (hy:a.eval y= .slice ad m c) (hm:m=vs.length) (hp:dM W' vs xs) (hn:0<m→∃b off,ad=some ⟨b,off,none⟩∧∀(j:Nat) (u:Value),(bQ vs)[j]? =some u→W.cell? ⟨b,off+j,none⟩=some u) (hl:us.length+m≤1048576) (hb:base≤W.heap.size)
  (h:∀v' w',w'.ownsRow base 30 2 v' (us++vs).length (bQ (us++vs))→W.grownBy w' v.ownBlock→K (a.put op.dst v') w'):
  if Region.wanted op (yielded ops a.tmps)=true then Oper.wp Tryz.prog op a W K Q else E:=by
 have hw:Region.wanted op (yielded ops a.tmps)=true:=by simp[Region.wanted,hgd]
 rw[if_pos hw]
 obtain⟨v',w',hr,h1,h2⟩:=yI op.type hown hm hp hn hl hb
 exact Lib.wp_append_run _ s y _ _ hop _ _ hs hy v' w' hr (h v' w' h1 h2)
def SX(vs:List (Int×Value))(w:World)(e:Ending)(w' :World):Prop:=∃A n c,e= .returned (.slice A n c)∧w'.ownsRow w.heap.size 30 2 (.slice A n c) vs.length (bQ vs)∧Below w.heap.size w w'
theorem PM{w:World}{base n sz:Nat}{e:TypeId}{v:Value}{cs:List Value}(h:w.ownsRow base e sz v n cs):∃A c,v= .slice A n c:=by
 rcases h.2 with⟨rfl,rfl⟩|⟨g,cap,cur,rfl,_⟩
 ·exact⟨_,_,rfl⟩
 ·exact⟨_,_,rfl⟩
theorem J1(B:Option Addr)(m d:Nat)(vs:List (Int×Value))(xs:List (St ByteArray))(w0 w:World)(hm:m=vs.length)(hl:m≤1048576)(hp:dM w0 vs xs)
  (hc:0<m→∃b off,B=some ⟨b,off,none⟩∧b<w.heap.size∧∀(j:Nat) (u:Value),(bQ vs)[j]? =some u→w.cell? ⟨b,off+j,none⟩=some u):
  Calls Tryz.prog 140 #[.slice B m d] w (SX vs w):=by
 have HP:=zH hp
 have HL:Hid ((w.alloc (.cells #[] 30)).ownsRow w.heap.size 30 2 (.slice (some ⟨w.heap.size,0,none⟩) 0 0) ([]:List (Int×Value)).length (bQ [])):=World.ownsRow_lit w #[] 0 (Nat.le_refl _) (by simp[maxLen]) (by simp)
 have HN:Hid (0<m→∃b off,B=some ⟨b,off,none⟩∧∀(j:Nat) (u:Value),(bQ vs)[j]? =some u→(w.alloc (.cells #[] 30)).cell? ⟨b,off+j,none⟩=some u):=fun h=>by
  obtain⟨b,off,e,hlt,hcc⟩:=hc h
  exact⟨b,off,e,fun j u hj=>by rw[World.cell?_alloc_lt _ _ _ hlt];exact hcc j u hj⟩
 have HVL:Hid (m=vs.length):=hm
 have HSZ:Hid (([]:List (Int×Value)).length+m≤1048576):=by unfold Hid;simp;omega
 have HB0:Hid (w.heap.size≤(w.alloc (.cells #[] 30)).heap.size):=by unfold Hid;rw[World.size_alloc];omega
 have HBL:Hid (Below w.heap.size w (w.alloc (.cells #[] 30))):=(Below.refl _ _).alloc (Nat.le_refl _) _
 have q26:∀(w:World) (a:Option Addr) (n c n' c' :Nat),(binOp .eql 31 (.slice a n c) (.slice none n' c')).run Tryz.prog w= .ok (.bool a.isNone) w:=fun w a n c n' c' =>Lib.run_eql_slice_nil w _ _ a n c n' c' Tryz.underlying31
 cases B with
 |none=>
  have hm0:m=0:=by
   rcases Nat.eq_zero_or_pos m with h|h
   ·exact h
   ·obtain⟨b,off,e,_⟩:=hc h;cases e
  subst hm0
  have hxn:vs=[]:=List.eq_nil_of_length_eq_zero hm.symm
  subst hxn
  clear hp hc hm
  go_enter Tryz.func140,Tryz.ntmps140
  go_wp2_with fail
  go_ret
  exact⟨none,0,0,rfl,World.ownsRow_nil w _ _ 2,Below.refl _ _⟩
 |some ad=>
  clear hp hc hm
  go_enter Tryz.func140,Tryz.ntmps140
  go_wp2_with (at_builtin;refine IK rfl _ _ rfl w.heap.size (.slice (some ⟨w.heap.size,0,none⟩) 0 0) [] vs xs w0 (some ad) m d rfl HL.out rfl HVL.out HP.out HN.out HSZ.out HB0.out ?_;intro v' w' ho hg;obtain⟨A',c',rfl⟩:=PM ho;have HO:=zH ho;have HBB:=zH (HBL.out.grown hg HB0.out (fun k e=>by cases e;exact Nat.le_refl _));clear ho hg)
  go_ret
  exact⟨_,_,_,rfl,HO.out,HBB.out⟩
def E7(T:aL)(k2:Int)(ys:List ByteArray)(A2:Option Addr)(n2 c2:Nat)(R:World→Prop)(w:World)(e:Ending)(w' :World):Prop:=∃B' m' d',e= .returned (.agg #[.int .i64 k2,.slice A2 n2 c2,.int .i64 T.things,.slice B' m' d'])∧(∀w2,R w2→aX w.heap.size w' w2→a7 w2 A2 ys→bN w2 (iG T ⟨k2,ys⟩) A2 n2 c2 B' m' d')∧Below w.heap.size w w'
theorem JU{w:World}{T:aL}{k2:Int}{ys:List ByteArray}{A2 B:Option Addr}{n2 c2 d:Nat}(h1:n2=ys.length)(h2:n2≤c2)(h3:c2≤maxLen)(h4:a7 w A2 ys)(hd:(T.past++[T.now]).length≤d)(hdm:d≤maxLen)(hB:b6 w B (T.past++[T.now])):
  ((T.past++[T.now]).length≤10→bN w (iG T ⟨k2,ys⟩) A2 n2 c2 B (T.past++[T.now]).length d)∧(10<(T.past++[T.now]).length→∀b off,B=some ⟨b,off,none⟩→bN w (iG T ⟨k2,ys⟩) A2 n2 c2 (some ⟨b,off+2,none⟩) ((T.past++[T.now]).length -1) (d-1)):=by
 refine⟨fun hl=> ?_,fun hl b off e=> ?_⟩
 ·have hke:eD (T.past++[T.now])=T.past++[T.now]:=by unfold eD;rw[if_neg (by omega)]
  exact⟨h1,h2,h3,h4,by show _=(eD _).length;rw[hke],hd,hdm,by show b6 _ _ (eD _);rw[hke];exact hB⟩
 ·have hke:eD (T.past++[T.now])=(T.past++[T.now]).tail:=by unfold eD;rw[if_pos hl]
  subst e
  exact⟨h1,h2,h3,h4,by show _=(eD _).length;rw[hke,List.length_tail],by omega,by omega,by show b6 _ _ (eD _);rw[hke];exact hB.drop1⟩
theorem CT{w:World}{T:aL}{A:Option Addr}{c:Nat}(h1:T.now.op.length≤c)(h2:c≤maxLen)(h3:a7 w A T.now.op):dM w [(T.now.known,.slice A T.now.op.length c)] [T.now]:=(dM.nil w).snoc h1 h2 h3
theorem r5{R:World→Prop}{W w1 wa w2:World}{T:aL}{q:Int}{A A5:Option Addr}{lo c n5 c5:Nat}{vs:List (Int×Value)}{v2:Value}(fw:US R)(hq:T.now.known=q)(hp:∀W,R W→dM W vs T.past)(h1:T.now.op.length≤c)(h2:c≤maxLen)(h3:∀W,R W→a7 W A T.now.op)(hb0:R W)(hlo:lo≤W.heap.size)
  (ho:w1.ownsRow W.heap.size 30 2 (.slice A5 n5 c5) vs.length (bQ vs)) (hr:w2.ownsRow W.heap.size 30 2 v2 (vs++[(q,Value.slice A T.now.op.length c)]).length (bQ (vs++[(q,Value.slice A T.now.op.length c)]))) (hx:Below W.heap.size W wa) (hg:wa.grownBy w2 (Value.slice A5 n5 c5).ownBlock):
  ∃B d,v2= .slice B (T.past++[T.now]).length d∧(T.past++[T.now]).length≤d∧d≤maxLen∧(∀w',R w'→aX lo w2 w'→b6 w' B (T.past++[T.now]))∧Below W.heap.size W w2:=by
 have hb2:Below W.heap.size W w2:=hx.grown hg hx.size fun k e=>(World.ownsRow.lt ho k e).1
 have hp2:∀W,R W→dM W (vs++[(q,Value.slice A T.now.op.length c)]) (T.past++[T.now]):=fun W hW=>by
  rw[←hq]
  exact(hp W hW).snoc h1 h2 (h3 W hW)
 obtain⟨B,d,e,a,b,r⟩:=PF hr hlo hp2 (fw _ _ hb0 hb2)
 exact⟨B,d,e,a,b,r,hb2⟩
theorem JG{R:World→Prop}{w W0 w1:World}{T:aL}{q t:Int}{A B A5:Option Addr}{c d n5 c5:Nat}{vs:List (Int×Value)}(hq:T.now.known=q)(h1:T.now.op.length≤c)(h2:c≤maxLen)(h3:∀W,R W→a7 W A T.now.op)(hp:∀W,R W→dM W vs T.past)(hB:R W0.drew)(hX:aD W0 w.heap.size 79 [.int .i64 q,.slice A T.now.op.length c,.int .i64 t,.slice B T.past.length d])(hpl:T.past.length≤10)
  (ho:w1.ownsRow W0.drew.heap.size 30 2 (.slice A5 n5 c5) vs.length (bQ vs)) (hb:Below W0.drew.heap.size W0.drew w1):
  (w1.cell? ⟨w.heap.size,0,none⟩=some (.int .i64 q)∧w1.cell? ⟨w.heap.size,1,none⟩=some (.slice A T.now.op.length c)∧w1.cell? ⟨w.heap.size,3,none⟩=some (.slice B T.past.length d))∧
  Below W0.drew.heap.size W0.drew (w1.alloc (.cells #[.int .i64 q,.slice A T.now.op.length c] 30))∧
  (w1.alloc (.cells #[.int .i64 q,.slice A T.now.op.length c] 30)).ownsRow W0.drew.heap.size 30 2 (.slice A5 n5 c5) vs.length (bQ vs)∧
  W0.drew.heap.size≤(w1.alloc (.cells #[.int .i64 q,.slice A T.now.op.length c] 30)).heap.size∧
  (0<1→∃b off,(some ⟨w1.heap.size,0,none⟩:Option Addr)=some ⟨b,off,none⟩∧∀(j:Nat) (u:Value),(bQ [(q,Value.slice A T.now.op.length c)])[j]? =some u→(w1.alloc (.cells #[.int .i64 q,.slice A T.now.op.length c] 30)).cell? ⟨b,off+j,none⟩=some u)∧
  dM w1 [(q,Value.slice A T.now.op.length c)] [T.now]∧vs.length+1≤1048576:=by
 have hx1:=hX.drew.below hb
 have hba:=hb.alloc hb.size (.cells #[.int .i64 q,.slice A T.now.op.length c] 30)
 refine⟨⟨hx1.cell (i:=0) (v:= .int .i64 q) rfl,hx1.cell (i:=1) (v:= .slice A T.now.op.length c) rfl,hx1.cell (i:=3) (v:= .slice B T.past.length d) rfl⟩,hba,World.ownsRow.alloc ho _,hba.size,fun _=>⟨_,_,rfl,fun j u hj=> ?_⟩,?_,?_⟩
 ·rw[Nat.zero_add];exact(aD.new w1 30 [.int .i64 q,.slice A T.now.op.length c]).cell hj
 ·have:=CT h1 h2 ((h3 _ hB).below hb)
  rw[hq] at this;exact this
 ·rw[(hp _ hB).1];omega
theorem JT{R:World→Prop}{w W0 w1:World}{T:aL}{q t:Int}{A B:Option Addr}{c d:Nat}{vs:List (Int×Value)}(hq:T.now.known=q)(h1:T.now.op.length≤c)(h2:c≤maxLen)(h3:∀W,R W→a7 W A T.now.op)(hp:∀W,R W→dM W vs T.past)(hB:R (W0.drew.alloc (.cells #[.int .i64 q,.slice A T.now.op.length c] 30)))(hX:aD W0 w.heap.size 79 [.int .i64 q,.slice A T.now.op.length c,.int .i64 t,.slice B T.past.length d])(hpl:T.past.length≤10)
  (hb:Below (W0.drew.alloc (.cells #[.int .i64 q,.slice A T.now.op.length c] 30)).heap.size (W0.drew.alloc (.cells #[.int .i64 q,.slice A T.now.op.length c] 30)) w1):
  (w1.cell? ⟨w.heap.size,0,none⟩=some (.int .i64 q)∧w1.cell? ⟨w.heap.size,1,none⟩=some (.slice A T.now.op.length c)∧w1.cell? ⟨w.heap.size,3,none⟩=some (.slice B T.past.length d))∧
  (W0.drew.alloc (.cells #[.int .i64 q,.slice A T.now.op.length c] 30)).heap.size≤w1.heap.size∧
  (0<1→∃b off,(some ⟨W0.heap.size,0,none⟩:Option Addr)=some ⟨b,off,none⟩∧∀(j:Nat) (u:Value),(bQ [(q,Value.slice A T.now.op.length c)])[j]? =some u→w1.cell? ⟨b,off+j,none⟩=some u)∧
  dM w1 [(q,Value.slice A T.now.op.length c)] [T.now]∧vs.length+1≤1048576:=by
 have hx1:=((hX.drew).alloc (.cells #[.int .i64 q,.slice A T.now.op.length c] 30)).below hb
 refine⟨⟨hx1.cell (i:=0) (v:= .int .i64 q) rfl,hx1.cell (i:=1) (v:= .slice A T.now.op.length c) rfl,hx1.cell (i:=3) (v:= .slice B T.past.length d) rfl⟩,hb.size,fun _=>⟨_,_,rfl,fun j u hj=> ?_⟩,?_,?_⟩
 ·rw[Nat.zero_add];exact((aD.new W0.drew 30 [.int .i64 q,.slice A T.now.op.length c]).below hb).cell hj
 ·have:=CT h1 h2 ((h3 _ hB).below hb)
  rw[hq] at this;exact this
 ·rw[(hp _ hB).1];omega
theorem uX(W:World)(o:Obj):W.heap.size≤(W.drew.alloc o).heap.size:=by rw[World.size_alloc];exact Nat.le_succ _
theorem yT{w:World}{b lo:Nat}(h:b<lo)(a b' c d:Value):aX lo w ((((w.drew.setCell ⟨b,0,none⟩ a).setCell ⟨b,1,none⟩ b').setCell ⟨b,2,none⟩ c).setCell ⟨b,3,none⟩ d):=by
 have hset:∀(W:World) (i:Nat) (v:Value),aX lo W (W.setCell ⟨b,i,none⟩ v):=fun W i v=>aX.set h
 have h0:aX lo w w.drew:=⟨Nat.le_refl _,fun _ _ _=>rfl⟩
 exact(((h0.trans (hset w.drew 0 a) (Nat.le_refl _)).trans (hset _ 1 b') (Nat.le_refl _)).trans (hset _ 2 c) (Nat.le_refl _)).trans (hset _ 3 d) (Nat.le_refl _)
theorem J0(T:aL)(A B:Option Addr)(n c m d:Nat)(R:World→Prop)(w:World)(hT:qL R T A n c B m d)(hbw:R w)(hpl:T.past.length≤10)(k2:Int)(A2:Option Addr)(n2 c2:Nat)(ys:List ByteArray)(hy1:n2=ys.length)(hy2:n2≤c2)(hy3:c2≤maxLen):
  Calls Tryz.prog 116 #[.agg #[.int .i64 T.now.known,.slice A n c,.int .i64 T.things,.slice B m d],.agg #[.int .i64 k2,.slice A2 n2 c2]] w (E7 T k2 ys A2 n2 c2 R w):=by
 obtain rfl:=hT.pn
 obtain rfl:=hT.hn
 obtain⟨t,ht⟩:∃t,T.things=t:=⟨_,rfl⟩
 obtain⟨q,hq⟩:∃q,T.now.known=q:=⟨_,rfl⟩
 have HTQ:Hid (T.things=t∧T.now.known=q):=⟨ht,hq⟩
 unfold E7
 rw[ht,hq]
 have HX0:Hid (aD (((w.alloc (.cells #[.int .i64 q,.slice A T.now.op.length c,.int .i64 t,.slice B T.past.length d] 79)).alloc (.cells #[.int .i64 k2,.slice A2 n2 c2] 30)).alloc (.cells #[.int .i64 0,.slice none 0 0,.int .i64 0,.slice none 0 0] 79)) w.heap.size 79 [.int .i64 q,.slice A T.now.op.length c,.int .i64 t,.slice B T.past.length d]):=((aD.new w _ [.int .i64 q,.slice A T.now.op.length c,.int .i64 t,.slice B T.past.length d]).alloc _).alloc _
 have HY0:Hid (aD (((w.alloc (.cells #[.int .i64 q,.slice A T.now.op.length c,.int .i64 t,.slice B T.past.length d] 79)).alloc (.cells #[.int .i64 k2,.slice A2 n2 c2] 30)).alloc (.cells #[.int .i64 0,.slice none 0 0,.int .i64 0,.slice none 0 0] 79)) (w.heap.size+1) 30 [.int .i64 k2,.slice A2 n2 c2]):=by
  have:=(aD.new (w.alloc (.cells #[.int .i64 q,.slice A T.now.op.length c,.int .i64 t,.slice B T.past.length d] 79)) 30 [.int .i64 k2,.slice A2 n2 c2]).alloc (.cells #[.int .i64 0,.slice none 0 0,.int .i64 0,.slice none 0 0] 79)
  rw[World.size_alloc] at this;exact this
 have HR0:Hid (aD (((w.alloc (.cells #[.int .i64 q,.slice A T.now.op.length c,.int .i64 t,.slice B T.past.length d] 79)).alloc (.cells #[.int .i64 k2,.slice A2 n2 c2] 30)).alloc (.cells #[.int .i64 0,.slice none 0 0,.int .i64 0,.slice none 0 0] 79)) (w.heap.size+2) 79 [.int .i64 0,.slice none 0 0,.int .i64 0,.slice none 0 0]):=by
  have:=aD.new ((w.alloc (.cells #[.int .i64 q,.slice A T.now.op.length c,.int .i64 t,.slice B T.past.length d] 79)).alloc (.cells #[.int .i64 k2,.slice A2 n2 c2] 30)) 79 [.int .i64 0,.slice none 0 0,.int .i64 0,.slice none 0 0]
  rw[World.size_alloc,World.size_alloc] at this;exact this
 have HB0:Hid (Below w.heap.size w (((w.alloc (.cells #[.int .i64 q,.slice A T.now.op.length c,.int .i64 t,.slice B T.past.length d] 79)).alloc (.cells #[.int .i64 k2,.slice A2 n2 c2] 30)).alloc (.cells #[.int .i64 0,.slice none 0 0,.int .i64 0,.slice none 0 0] 79))):=(((Below.refl _ _).alloc (Nat.le_refl _) _).alloc (by rw[World.size_alloc];omega) _).alloc (by rw[World.size_alloc,World.size_alloc];omega) _
 have HT:=zH hT
 have HY:=zH (And.intro hy1 (And.intro hy2 hy3))
 have HBW0:=zH hbw
 have hpl2:T.past.length≤1048576:=by omega
 have HPL:=zH hpl
 clear hT ht hq hy1 hy3 hbw
 go_enter Tryz.func116,Tryz.ntmps116
 go_upto_region 1 with fail
 obtain⟨W0,hW0⟩:∃W,((w.alloc (.cells #[.int .i64 q,.slice A T.now.op.length c,.int .i64 t,.slice B T.past.length d] 79)).alloc (.cells #[.int .i64 k2,.slice A2 n2 c2] 30)).alloc (.cells #[.int .i64 0,.slice none 0 0,.int .i64 0,.slice none 0 0] 79)=W:=⟨_,rfl⟩
 rw[hW0] at HX0 HY0 HR0 HB0⊢
 clear hW0
 have hc0:=HX0.out.cell (i:=0) (v:= .int .i64 q) rfl
 have hc1:=HX0.out.cell (i:=1) (v:= .slice A T.now.op.length c) rfl
 have hc3:=HX0.out.cell (i:=3) (v:= .slice B T.past.length d) rfl
 have hsz0:w.heap.size≤W0.heap.size:=HB0.out.size
 have hr0lt:=HR0.out.lt
 have HB00:=zH (HT.out.fw _ _ HBW0.out HB0.out)
 have HBD:Hid (R W0.drew):=HT.out.fw _ _ HB00.out (aE (Below.refl _ _) 1)
 have HBL:Hid (R (W0.drew.alloc (.cells #[.int .i64 q,.slice A T.now.op.length c] 30))):=HT.out.fw _ _ HBD.out ((Below.refl _ _).alloc (Nat.le_refl _) _)
 obtain⟨vs,hpw,hcw⟩:=HT.out.hP
 have HPW:=zH hpw
 have HCW:=zH hcw
 have HC1:=zH (J1 B T.past.length d vs T.past W0.drew W0.drew (hpw _ HBD.out).1.symm hpl2 (hpw _ HBD.out) (HCW.out _ HBD.out))
 have HC2:=zH (J1 B T.past.length d vs T.past (W0.drew.alloc (.cells #[.int .i64 q,.slice A T.now.op.length c] 30)) (W0.drew.alloc (.cells #[.int .i64 q,.slice A T.now.op.length c] 30)) (hpw _ HBL.out).1.symm hpl2 (hpw _ HBL.out) (HCW.out _ HBL.out))
 clear hpw hcw
 go_cut [5] from 6 to 12 (fun s5 wx=>∃B3 d3,s5= .slice B3 (T.past++[T.now]).length d3∧Hid ((T.past++[T.now]).length≤d3∧d3≤maxLen∧∀w',R w'→aX W0.heap.size wx w'→b6 w' B3 (T.past++[T.now]))∧Hid (Below W0.heap.size W0 wx))
 case first=>
  refine wp_region_held_drew (S:=(fun w' =>w'.cell? ⟨w.heap.size,0,none⟩=some (.int .i64 q)∧w'.cell? ⟨w.heap.size,1,none⟩=some (.slice A T.now.op.length c)∧w'.cell? ⟨w.heap.size,3,none⟩=some (.slice B T.past.length d))) (by kernel_rfl) ?_ (fun hHeld=> ?_)
  ·exact⟨hc0,hc1,hc3⟩
  refine zT 0 (h:=?_)
  try simp only[Act.put,List.setIfInBounds_toArray]
  refine zT 1 (h:=?_)
  try simp only[Act.put]
  refine zT 3 (h:=?_)
  try simp only[Act.put]
  refine zT 4 (h:=?_)
  try simp only[Act.put]
  refine wpAnyH_ready (rs:=[2,5]) (by kernel_rfl) (by simp) ?_
  refine AllReadyH.cons rfl (fun K hK=> ?_) ?_
  ·(go_simp;(first|(go_at_call 140;(with_reducible refine HC1.out.mono ?_);rintro e w1 ⟨A5,n5,c5,rfl,ho,hb⟩;have HF1:=zH (JG HTQ.out.2 HT.out.hc HT.out.hm HT.out.hA HPW.out HBD.out HX0.out HPL.out ho hb);have HO5:=zH ho;have HB5:=zH hb;have HK1:=zH HF1.out.1;clear ho hb)|(go_at_call 140;refine HC2.out.mono ?_;rintro e w1 ⟨A5,n5,c5,rfl,ho,hb⟩;have HF6:=zH (JT HTQ.out.2 HT.out.hc HT.out.hm HT.out.hA HPW.out HBL.out HX0.out HPL.out hb);have HO6:=zH ho;have HB6:=zH hb;have HK1:=zH HF6.out.1;clear ho hb));(try go_simp))
   refine hK.out _ _ ?_ (fun hHeld=> ?_)
   ·(first|exact HK2.out|exact HK1.out|exact⟨hc0,hc1,hc3⟩|go_keep)
   clear hK K
   try simp only[Act.put,zS]
   refine wpAnyH_ready (rs:=[5]) (by kernel_rfl) (by simp) ?_
   refine AllReadyH.cons rfl (fun K hK=> ?_) ?_
   ·go_simp
    refine hK.out _ _ ?_ (fun hHeld=> ?_)
    ·(first|exact HK2.out|exact HK1.out|exact⟨hc0,hc1,hc3⟩|go_keep)
    clear hK K
    try simp only[Act.put,zS]
    refine wpAnyH_ready (rs:=[6]) (by kernel_rfl) (by simp) ?_
    refine AllReadyH.cons rfl (fun K hK=> ?_) ?_
    ·((first|(refine o5 rfl _ _ rfl W0.drew.heap.size (.slice A5 n5 c5) vs [(q,.slice A T.now.op.length c)] [T.now] w1 (some ⟨w1.heap.size,0,none⟩) 1 1 rfl HF1.out.2.2.1 rfl rfl HF1.out.2.2.2.2.2.1 HF1.out.2.2.2.2.1 HF1.out.2.2.2.2.2.2 HF1.out.2.2.2.1 ?_;intro v2 w2 hr hg;obtain⟨B3,d3,rfl,h1,h2,h3,h4⟩:=r5 (lo:=W0.heap.size) HT.out.fw HTQ.out.2 HPW.out HT.out.hc HT.out.hm HT.out.hA HBD.out (Nat.le_refl _) HO5.out hr HF1.out.2.1 hg;have hx2:=(HX0.out.drew).below h4;have HK2:=zH (And.intro (hx2.cell (i:=0) (v:= .int .i64 q) rfl) (And.intro (hx2.cell (i:=1) (v:= .slice A T.now.op.length c) rfl) (hx2.cell (i:=3) (v:= .slice B T.past.length d) rfl)));have HFIN:=zH (And.intro (And.intro h1 (And.intro h2 h3)) (aA (aE (Below.refl W0.heap.size W0) 1) h4));clear hr hg h1 h2 h3 h4 hx2)|(refine o5 rfl _ _ rfl (W0.drew.alloc (.cells #[.int .i64 q,.slice A T.now.op.length c] 30)).heap.size (.slice A5 n5 c5) vs [(q,.slice A T.now.op.length c)] [T.now] w1 (some ⟨W0.heap.size,0,none⟩) 1 1 rfl HO6.out rfl rfl HF6.out.2.2.2.1 HF6.out.2.2.1 HF6.out.2.2.2.2 HF6.out.2.1 ?_;intro v2 w2 hr hg;obtain⟨B3,d3,rfl,h1,h2,h3,h4⟩:=r5 (lo:=W0.heap.size) HT.out.fw HTQ.out.2 HPW.out HT.out.hc HT.out.hm HT.out.hA HBL.out (uX W0 _) HO6.out hr HB6.out hg;have hx2:=((HX0.out.drew).alloc (.cells #[.int .i64 q,.slice A T.now.op.length c] 30)).below h4;have HK2:=zH (And.intro (hx2.cell (i:=0) (v:= .int .i64 q) rfl) (And.intro (hx2.cell (i:=1) (v:= .slice A T.now.op.length c) rfl) (hx2.cell (i:=3) (v:= .slice B T.past.length d) rfl)));have HFIN:=zH (And.intro (And.intro h1 (And.intro h2 h3)) (aA ((aE (Below.refl W0.heap.size W0) 1).alloc (Nat.le_refl _) (.cells #[.int .i64 q,.slice A T.now.op.length c] 30)) h4));clear hr hg h1 h2 h3 h4 hx2));simp only[List.getElem_toArray,List.getElem_cons_succ,List.getElem_cons_zero])
     refine hK.out _ _ ?_ (fun hHeld=> ?_)
     ·(first|exact HK2.out|exact HK1.out|exact⟨hc0,hc1,hc3⟩|go_keep)
     clear hK K
     try simp only[Act.put,zS]
     refine wpAnyH_ready (rs:=[7]) (by kernel_rfl) (by simp) ?_
     refine AllReadyH.cons rfl (fun K hK=> ?_) ?_
     ·go_simp
      refine hK.out _ _ ?_ (fun hHeld=> ?_)
      ·(first|exact HK2.out|exact HK1.out|exact⟨hc0,hc1,hc3⟩|go_keep)
      clear hK K
      try simp only[Act.put,zS]
      refine wpAnyH_done (by kernel_rfl) ?_ _
      go_wp2_with fail
      go_meet
      exact⟨B3,d3,by rw[List.length_append];rfl,HFIN.out.1,HFIN.out.2⟩
     exact AllReadyH.nil
    exact AllReadyH.nil
   exact AllReadyH.nil
  refine AllReadyH.cons rfl (fun K hK=> ?_) ?_
  ·go_simp
   refine hK.out _ _ ?_ (fun hHeld=> ?_)
   ·(first|exact HK2.out|exact HK1.out|exact⟨hc0,hc1,hc3⟩|go_keep)
   clear hK K
   try simp only[Act.put,zS]
   refine wpAnyH_ready (rs:=[2]) (by kernel_rfl) (by simp) ?_
   refine AllReadyH.cons rfl (fun K hK=> ?_) ?_
   ·(go_simp;(first|(go_at_call 140;(with_reducible refine HC1.out.mono ?_);rintro e w1 ⟨A5,n5,c5,rfl,ho,hb⟩;have HF1:=zH (JG HTQ.out.2 HT.out.hc HT.out.hm HT.out.hA HPW.out HBD.out HX0.out HPL.out ho hb);have HO5:=zH ho;have HB5:=zH hb;have HK1:=zH HF1.out.1;clear ho hb)|(go_at_call 140;refine HC2.out.mono ?_;rintro e w1 ⟨A5,n5,c5,rfl,ho,hb⟩;have HF6:=zH (JT HTQ.out.2 HT.out.hc HT.out.hm HT.out.hA HPW.out HBL.out HX0.out HPL.out hb);have HO6:=zH ho;have HB6:=zH hb;have HK1:=zH HF6.out.1;clear ho hb));(try go_simp))
    refine hK.out _ _ ?_ (fun hHeld=> ?_)
    ·(first|exact HK2.out|exact HK1.out|exact⟨hc0,hc1,hc3⟩|go_keep)
    clear hK K
    try simp only[Act.put,zS]
    refine wpAnyH_ready (rs:=[6]) (by kernel_rfl) (by simp) ?_
    refine AllReadyH.cons rfl (fun K hK=> ?_) ?_
    ·((first|(refine o5 rfl _ _ rfl W0.drew.heap.size (.slice A5 n5 c5) vs [(q,.slice A T.now.op.length c)] [T.now] w1 (some ⟨w1.heap.size,0,none⟩) 1 1 rfl HF1.out.2.2.1 rfl rfl HF1.out.2.2.2.2.2.1 HF1.out.2.2.2.2.1 HF1.out.2.2.2.2.2.2 HF1.out.2.2.2.1 ?_;intro v2 w2 hr hg;obtain⟨B3,d3,rfl,h1,h2,h3,h4⟩:=r5 (lo:=W0.heap.size) HT.out.fw HTQ.out.2 HPW.out HT.out.hc HT.out.hm HT.out.hA HBD.out (Nat.le_refl _) HO5.out hr HF1.out.2.1 hg;have hx2:=(HX0.out.drew).below h4;have HK2:=zH (And.intro (hx2.cell (i:=0) (v:= .int .i64 q) rfl) (And.intro (hx2.cell (i:=1) (v:= .slice A T.now.op.length c) rfl) (hx2.cell (i:=3) (v:= .slice B T.past.length d) rfl)));have HFIN:=zH (And.intro (And.intro h1 (And.intro h2 h3)) (aA (aE (Below.refl W0.heap.size W0) 1) h4));clear hr hg h1 h2 h3 h4 hx2)|(refine o5 rfl _ _ rfl (W0.drew.alloc (.cells #[.int .i64 q,.slice A T.now.op.length c] 30)).heap.size (.slice A5 n5 c5) vs [(q,.slice A T.now.op.length c)] [T.now] w1 (some ⟨W0.heap.size,0,none⟩) 1 1 rfl HO6.out rfl rfl HF6.out.2.2.2.1 HF6.out.2.2.1 HF6.out.2.2.2.2 HF6.out.2.1 ?_;intro v2 w2 hr hg;obtain⟨B3,d3,rfl,h1,h2,h3,h4⟩:=r5 (lo:=W0.heap.size) HT.out.fw HTQ.out.2 HPW.out HT.out.hc HT.out.hm HT.out.hA HBL.out (uX W0 _) HO6.out hr HB6.out hg;have hx2:=((HX0.out.drew).alloc (.cells #[.int .i64 q,.slice A T.now.op.length c] 30)).below h4;have HK2:=zH (And.intro (hx2.cell (i:=0) (v:= .int .i64 q) rfl) (And.intro (hx2.cell (i:=1) (v:= .slice A T.now.op.length c) rfl) (hx2.cell (i:=3) (v:= .slice B T.past.length d) rfl)));have HFIN:=zH (And.intro (And.intro h1 (And.intro h2 h3)) (aA ((aE (Below.refl W0.heap.size W0) 1).alloc (Nat.le_refl _) (.cells #[.int .i64 q,.slice A T.now.op.length c] 30)) h4));clear hr hg h1 h2 h3 h4 hx2));simp only[List.getElem_toArray,List.getElem_cons_succ,List.getElem_cons_zero])
     refine hK.out _ _ ?_ (fun hHeld=> ?_)
     ·(first|exact HK2.out|exact HK1.out|exact⟨hc0,hc1,hc3⟩|go_keep)
     clear hK K
     try simp only[Act.put,zS]
     refine wpAnyH_ready (rs:=[7]) (by kernel_rfl) (by simp) ?_
     refine AllReadyH.cons rfl (fun K hK=> ?_) ?_
     ·go_simp
      refine hK.out _ _ ?_ (fun hHeld=> ?_)
      ·(first|exact HK2.out|exact HK1.out|exact⟨hc0,hc1,hc3⟩|go_keep)
      clear hK K
      try simp only[Act.put,zS]
      refine wpAnyH_done (by kernel_rfl) ?_ _
      go_wp2_with fail
      go_meet
      exact⟨B3,d3,by rw[List.length_append];rfl,HFIN.out.1,HFIN.out.2⟩
     exact AllReadyH.nil
    exact AllReadyH.nil
   exact AllReadyH.nil
  exact AllReadyH.nil
 case rest=>
  obtain⟨B3,d3,rfl,HD,HB5⟩:=hcut
  obtain⟨n3,hn3⟩:∃n3,(T.past++[T.now]).length=n3:=⟨_,rfl⟩
  have hn11:n3=T.past.length+1:=by rw[←hn3,List.length_append];rfl
  have HN3:=zH hn3
  rw[hn3] at HD⊢
  clear HC1 HC2 HBD HBL hc0 hc1 hc3 hn3
  have HX5:=zH (HX0.out.below HB5.out)
  have HY5:=zH (HY0.out.below HB5.out)
  have HR5:=zH (HR0.out.below HB5.out)
  have HBW:=zH (aA HB0.out HB5.out)
  have HBX:=zH (HT.out.fw _ _ HB00.out HB5.out)
  have hc2:=HX5.out.cell (i:=2) (v:= .int .i64 t) rfl
  have hy0:=HY5.out.cell (i:=0) (v:= .int .i64 k2) rfl
  have hy1:=HY5.out.cell (i:=1) (v:= .slice A2 n2 c2) rfl
  clear HX0 HY0 HR0 HB0 HB5
  have hnd:n3≤d3:=HD.out.1
  have HSR:=zH (HD.out.2.2 _ HBX.out (aX.refl _ _))
  have hlt2:w.heap.size+2<W0.heap.size:=hr0lt
  obtain⟨b3,off3,rfl⟩:∃b3 off3,B3=some ⟨b3,off3,none⟩:=by
   obtain⟨b,off,h,_⟩:=HSR.out (by rw[HN3.out];omega)
   exact⟨b,off,h⟩
  by_cases hl:10<n3
  ·have hmx:max (0:Int) ((n3:Int)-10)=1:=by omega
   have hn0:(1:Int)≤(n3:Int):=by omega
   have hwr:IntKind.i64.wrap ((n3:Int)-10)=(n3:Int)-10:=IntWalk.i64_in _ (by omega)
   have hd3:(n3:Int)≤(d3:Int):=by omega
   have hc1:¬(d3=1):=by omega
   clear hn11
   obtain⟨⟨ha0,ha1,ha2,ha3,ha4,ha5,ha6,ha7⟩,⟨hb2,hb3⟩,⟨hb4,hb5⟩,⟨hb6,hb7⟩,HOUT⟩:=(HR5.out.drew).store4 (.int .i64 k2) (.slice A2 n2 c2) (.int .i64 t) (.slice (some ⟨b3,off3+2,none⟩) (n3-1) (d3-1))
   obtain⟨⟨za0,za1,za2,za3,za4,za5,za6,za7⟩,⟨zb2,zb3⟩,⟨zb4,zb5⟩,⟨zb6,zb7⟩,_⟩:=HR5.out.store4 (.int .i64 k2) (.slice A2 n2 c2) (.int .i64 t) (.slice (some ⟨b3,off3+2,none⟩) (n3-1) (d3-1))
   have HK2:=zH (And.intro ((HX5.out.drew.other4 (g:=w.heap.size+2) (by omega) (.int .i64 k2) (.slice A2 n2 c2) (.int .i64 t) (.slice (some ⟨b3,off3+2,none⟩) (n3-1) (d3-1))).cell (i:=2) (v:= .int .i64 t) rfl) (And.intro ((HY5.out.drew.other4 (g:=w.heap.size+2) (by omega) (.int .i64 k2) (.slice A2 n2 c2) (.int .i64 t) (.slice (some ⟨b3,off3+2,none⟩) (n3-1) (d3-1))).cell (i:=0) (v:= .int .i64 k2) rfl) ((HY5.out.drew.other4 (g:=w.heap.size+2) (by omega) (.int .i64 k2) (.slice A2 n2 c2) (.int .i64 t) (.slice (some ⟨b3,off3+2,none⟩) (n3-1) (d3-1))).cell (i:=1) (v:= .slice A2 n2 c2) rfl)))
   have HBE:=zH (bG (aE HBW.out 1) (show w.heap.size≤w.heap.size+2 by omega) (.int .i64 k2) (.slice A2 n2 c2) (.int .i64 t) (.slice (some ⟨b3,off3+2,none⟩) (n3-1) (d3-1)))
   have HFT:Hid (∀w2,R w2→aX w.heap.size ((((wc.drew.setCell ⟨w.heap.size+2,0,none⟩ (.int .i64 k2)).setCell ⟨w.heap.size+2,1,none⟩ (.slice A2 n2 c2)).setCell ⟨w.heap.size+2,2,none⟩ (.int .i64 t)).setCell ⟨w.heap.size+2,3,none⟩ (.slice (some ⟨b3,off3+2,none⟩) (n3-1) (d3-1))) w2→a7 w2 A2 ys→bN w2 (iG T ⟨k2,ys⟩) A2 n2 c2 (some ⟨b3,off3+2,none⟩) (n3-1) (d3-1)):=fun w2 h1 h2 h3=>by
    have:=(JU (T:=T) (k2:=k2) HY.out.1 HY.out.2.1 HY.out.2.2 h3 (by rw[HN3.out];exact HD.out.1) HD.out.2.1 (HD.out.2.2 w2 h1 ((yT hlt2 (.int .i64 k2) (.slice A2 n2 c2) (.int .i64 t) (.slice (some ⟨b3,off3+2,none⟩) (n3-1) (d3-1))).trans h2 (by omega)))).2 (by rw[HN3.out];exact hl) b3 off3 rfl
    rw[HN3.out] at this;exact this
   go_upto_region 2 with fail
   go_region_held3 (fun w' =>w'.cell? ⟨w.heap.size,2,none⟩=some (.int .i64 t)∧w'.cell? ⟨w.heap.size+1,0,none⟩=some (.int .i64 k2)∧w'.cell? ⟨w.heap.size+1,1,none⟩=some (.slice A2 n2 c2))
    (first|exact HK2.out|exact⟨hc2,hy0,hy1⟩|go_keep)
    (fail)
   all_goals
    go_wp2_with fail
    refine bodyPost_ret_by (qJ (b:=w.heap.size+2) rfl rfl HOUT) rfl ⟨_,_,_,rfl,HFT.out,HBE.out⟩
  ·have hmx:max (0:Int) ((n3:Int)-10)=0:=by omega
   have hn0:(0:Int)≤(n3:Int):=by omega
   have hwr:IntKind.i64.wrap ((n3:Int)-10)=(n3:Int)-10:=IntWalk.i64_in _ (by omega)
   have hd3:(n3:Int)≤(d3:Int):=by omega
   clear hn11
   obtain⟨⟨ha0,ha1,ha2,ha3,ha4,ha5,ha6,ha7⟩,⟨hb2,hb3⟩,⟨hb4,hb5⟩,⟨hb6,hb7⟩,HOUT⟩:=(HR5.out.drew).store4 (.int .i64 k2) (.slice A2 n2 c2) (.int .i64 t) (.slice (some ⟨b3,off3,none⟩) n3 d3)
   obtain⟨⟨za0,za1,za2,za3,za4,za5,za6,za7⟩,⟨zb2,zb3⟩,⟨zb4,zb5⟩,⟨zb6,zb7⟩,_⟩:=HR5.out.store4 (.int .i64 k2) (.slice A2 n2 c2) (.int .i64 t) (.slice (some ⟨b3,off3,none⟩) n3 d3)
   have HK2:=zH (And.intro ((HX5.out.drew.other4 (g:=w.heap.size+2) (by omega) (.int .i64 k2) (.slice A2 n2 c2) (.int .i64 t) (.slice (some ⟨b3,off3,none⟩) n3 d3)).cell (i:=2) (v:= .int .i64 t) rfl) (And.intro ((HY5.out.drew.other4 (g:=w.heap.size+2) (by omega) (.int .i64 k2) (.slice A2 n2 c2) (.int .i64 t) (.slice (some ⟨b3,off3,none⟩) n3 d3)).cell (i:=0) (v:= .int .i64 k2) rfl) ((HY5.out.drew.other4 (g:=w.heap.size+2) (by omega) (.int .i64 k2) (.slice A2 n2 c2) (.int .i64 t) (.slice (some ⟨b3,off3,none⟩) n3 d3)).cell (i:=1) (v:= .slice A2 n2 c2) rfl)))
   have HBE:=zH (bG (aE HBW.out 1) (show w.heap.size≤w.heap.size+2 by omega) (.int .i64 k2) (.slice A2 n2 c2) (.int .i64 t) (.slice (some ⟨b3,off3,none⟩) n3 d3))
   have HFT:Hid (∀w2,R w2→aX w.heap.size ((((wc.drew.setCell ⟨w.heap.size+2,0,none⟩ (.int .i64 k2)).setCell ⟨w.heap.size+2,1,none⟩ (.slice A2 n2 c2)).setCell ⟨w.heap.size+2,2,none⟩ (.int .i64 t)).setCell ⟨w.heap.size+2,3,none⟩ (.slice (some ⟨b3,off3,none⟩) n3 d3)) w2→a7 w2 A2 ys→bN w2 (iG T ⟨k2,ys⟩) A2 n2 c2 (some ⟨b3,off3,none⟩) n3 d3):=fun w2 h1 h2 h3=>by
    have:=(JU (T:=T) (k2:=k2) HY.out.1 HY.out.2.1 HY.out.2.2 h3 (by rw[HN3.out];exact HD.out.1) HD.out.2.1 (HD.out.2.2 w2 h1 ((yT hlt2 (.int .i64 k2) (.slice A2 n2 c2) (.int .i64 t) (.slice (some ⟨b3,off3,none⟩) n3 d3)).trans h2 (by omega)))).1 (by rw[HN3.out];omega)
    rw[HN3.out] at this;exact this
   go_upto_region 2 with fail
   go_region_held3 (fun w' =>w'.cell? ⟨w.heap.size,2,none⟩=some (.int .i64 t)∧w'.cell? ⟨w.heap.size+1,0,none⟩=some (.int .i64 k2)∧w'.cell? ⟨w.heap.size+1,1,none⟩=some (.slice A2 n2 c2))
    (first|exact HK2.out|exact⟨hc2,hy0,hy1⟩|go_keep)
    (fail)
   all_goals
    go_wp2_with fail
    refine bodyPost_ret_by (qJ (b:=w.heap.size+2) rfl rfl HOUT) rfl ⟨_,_,_,rfl,HFT.out,HBE.out⟩
end Go.Proofs.YtfhjcacfchkdpaaGreatDoor
