/-
  What the proofs of this seat's statements share (Supg, Supi, Byt, Rdr).
-/
import Derived.Sort.CutIn
import Derived.Outline
import Derived.Test.YtfhjcacfchkdpaaGreatDoorU8
set_option maxRecDepth 100000
set_option maxHeartbeats 32000000
namespace Go.Proofs.YtfhjcacfchkdpaaGreatDoor
open Go.RowKit Go.Shelf
attribute [local go_sem] Oper.semAt_some
def sT(P:World→Value→Prop)(w:World)(e:Ending)(w' :World):Prop:=∃A n c,e= .returned (.slice A n c)∧P w' (.slice A n c)∧Below w.heap.size w w'
def rC(t s:Int)(x:bD)(w:World)(v:Value):Prop:=
 match x with
 | .no a=>bY w v s (aN t a)
 | .ask a=>bY w v s (aN t a)
 | .and_ a _=>bY w v s (aN t a)
 | .or_ a _=>bY w v s (aN t a)
 | .if_ a _=>bY w v s (aN t a)
 |_=>True
def rN(t s:Int)(x:bD)(w:World)(v:Value):Prop:=
 match x with
 | .and_ _ a=>bY w v s (aN t a)
 | .or_ _ a=>bY w v s (aN t a)
 | .if_ _ a=>bY w v s (aN t a)
 |_=>True
theorem rC.below{t s:Int}{x:bD}{w w' :World}{v:Value}(h:rC t s x w v)(hb:Below w.heap.size w w'):rC t s x w' v:=by
 cases x<;>first|exact bY.below h hb|trivial
theorem rN.below{t s:Int}{x:bD}{w w' :World}{v:Value}(h:rN t s x w v)(hb:Below w.heap.size w w'):rN t s x w' v:=by
 cases x<;>first|exact bY.below h hb|trivial
theorem ID(s:Int):aB 0 s=true:=by unfold aB aQ;simp
theorem oT.set{w:World}{b o n:Nat}{s:Int}{f:Int→Bool}{B k c:Nat}{t:TypeId}{A:Option Addr}(h:oT w b o n s f)(hx:Boxed w B t (.slice A k c))(v:Value):oT (w.setCell ⟨B,0,none⟩ v) b o n s f:=by
 have hne:B≠b:=by
  rintro rfl
  have h0:=(h.2 0 (Int.le_refl _) (ID s)).2
  simp[World.cell?,show w.heap[B]? =_ from hx] at h0
  cases o with
  |zero=>simp at h0
  |succ o=>simp at h0
 exact⟨by have:=(KeepsWalks.setCell w ⟨B,0,none⟩ v).size;have:=h.1;omega,fun u h0 hu=>⟨(h.2 u h0 hu).1,(World.cell?_setCell_far _ _ _ _ hne).trans (h.2 u h0 hu).2⟩⟩
theorem bY.set{w:World}{v:Value}{s:Int}{f:Int→Bool}{B k c:Nat}{t:TypeId}{A:Option Addr}(h:bY w v s f)(hx:Boxed w B t (.slice A k c))(u:Value):bY (w.setCell ⟨B,0,none⟩ u) v s f:=by
 obtain⟨b,o,n,c',rfl,h⟩:=h;exact⟨b,o,n,c',rfl,h.set hx u⟩
theorem rC.set{t s:Int}{x:bD}{w:World}{v:Value}{B k c:Nat}{ty:TypeId}{A:Option Addr}(h:rC t s x w v)(hx:Boxed w B ty (.slice A k c))(u:Value):rC t s x (w.setCell ⟨B,0,none⟩ u) v:=by
 cases x<;>first|exact bY.set h hx u|trivial
theorem rN.set{t s:Int}{x:bD}{w:World}{v:Value}{B k c:Nat}{ty:TypeId}{A:Option Addr}(h:rN t s x w v)(hx:Boxed w B ty (.slice A k c))(u:Value):rN t s x (w.setCell ⟨B,0,none⟩ u) v:=by
 cases x<;>first|exact bY.set h hx u|trivial
theorem zHq{W w2:World}(h:Below W.drew.heap.size W.drew w2):W.heap.size≤w2.heap.size:=h.size
theorem JX{W w2:World}(h:Below W.drew.heap.size W.drew w2)(o:Obj):Below W.heap.size W (w2.alloc o):=
 ((below_drewN (Below.refl W.heap.size W) 1).trans h).alloc (zHq h) o
theorem JS{W w2:World}{o:Obj}(h:Below (W.alloc o).drew.heap.size (W.alloc o).drew w2)(v:Value):Below W.heap.size W (w2.setCell ⟨W.heap.size,0,none⟩ v):=by
 have h1:Below W.heap.size (W.alloc o).drew w2:=h.mono (by show W.heap.size≤(W.alloc o).heap.size;simp)
 exact((below_drewN ((Below.refl W.heap.size W).alloc (Nat.le_refl _) o) 1).trans h1).setCell (p:=⟨W.heap.size,0,none⟩) (Nat.le_refl _) v
def xD{s:Int}(f:Int→Bool)(pre:List (qK s)):Nat→Value:=fun i=> .bool (decide ((i:Int)∈pre.map (·.1))&&f i)
theorem MI{s:Int}{f:Int→Bool}(pre:List (qK s))(y:qK s)(i:Nat):(if i=y.1.toNat then Value.bool (f y.1) else xD f pre i)=xD f (pre++[y]) i:=by
 have h0:=y.2.1
 unfold xD
 by_cases e:i=y.1.toNat
 ·rw[if_pos e]
  have e2:(i:Int)=y.1:=by omega
  rw[e2,decide_eq_true (by simp)];rfl
 ·rw[if_neg e]
  congr 2
  rw[decide_eq_decide]
  have e2:¬(i:Int)=y.1:=by omega
  simp[e2]
theorem GX{W W' :World}{row:Option Nat}{b n:Nat}{t:TypeId}{f:Nat→Value}(h:W.rowIs b t n f)(hg:W.grownBy W' row)(hr:∀r,row=some r→∃o:Obj,W.heap[r]? =some o∧o.isCells=false):W'.rowIs b t n f:=by
 refine h.of_block (hg.block b h.lt fun e=> ?_)
 obtain⟨o,ho,hc⟩:=hr b e.symm
 obtain⟨C,hC,_⟩:=h
 rw[hC] at ho;cases ho;cases hc
structure oI (N b B7 B8 T m:Nat) (t:Int) (sg:Nat) (v1 v2:Value) (w:World):Prop where
 c9:w.cell? ⟨T+1,0,none⟩=some (.slice (some ⟨T,0,none⟩) (m+1) (m+1))
 ct:w.cell? ⟨N,0,none⟩=some (.int .i64 t)
 cb:w.cell? ⟨N+1,0,none⟩=some (.pointer (some ⟨b,0,none⟩))
 cs:w.cell? ⟨b,0,none⟩=some (.int .u8 sg)
 c7:w.cell? ⟨B7,0,none⟩=some v1
 c8:w.cell? ⟨B8,0,none⟩=some v2
theorem oI.keep{N b B7 B8 T m:Nat}{t:Int}{sg:Nat}{v1 v2:Value}{w w' :World}(h:oI N b B7 B8 T m t sg v1 v2 w)(hk:∀a:Addr,a.block≠T→(w.cell? a).isSome=true→w'.cell? a=w.cell? a)(_h1:N<T)(h2:N+1<T)(h3:b<T)(h4:B7<T)(h5:B8<T):oI N b B7 B8 T m t sg v1 v2 w' :=
 ⟨(hk _ (by show T+1≠T;omega) (by rw[h.c9];rfl)).trans h.c9,(hk _ (by show N≠T;omega) (by rw[h.ct];rfl)).trans h.ct,(hk _ (by show N+1≠T;omega) (by rw[h.cb];rfl)).trans h.cb,
   (hk _ (by show b≠T;omega) (by rw[h.cs];rfl)).trans h.cs,(hk _ (by show B7≠T;omega) (by rw[h.c7];rfl)).trans h.c7,(hk _ (by show B8≠T;omega) (by rw[h.c8];rfl)).trans h.c8⟩
theorem oI.below{N b B7 B8 T m:Nat}{t:Int}{sg:Nat}{v1 v2:Value}{w w' :World}(h:oI N b B7 B8 T m t sg v1 v2 w)(hb:Below w.heap.size w w'):oI N b B7 B8 T m t sg v1 v2 w' :=
 ⟨(hb.cell (World.block_lt_of_cell? w _ h.c9)).trans h.c9,(hb.cell (World.block_lt_of_cell? w _ h.ct)).trans h.ct,(hb.cell (World.block_lt_of_cell? w _ h.cb)).trans h.cb,
   (hb.cell (World.block_lt_of_cell? w _ h.cs)).trans h.cs,(hb.cell (World.block_lt_of_cell? w _ h.c7)).trans h.c7,(hb.cell (World.block_lt_of_cell? w _ h.c8)).trans h.c8⟩
theorem IJ{w w' :World}(h:Below w.heap.size w w'):KeepsOthers w w' :=⟨h.size,fun k _ hk _=>(h.block k (Array.getElem?_eq_some_iff.1 hk).1).trans hk⟩
theorem OY{t s:Int}{x:bD}{w:World}{v1 v2:Value}(h1:rC t s x w v1)(h2:rN t s x w v2):lF w t x s v1 v2:=by
 cases x<;>first|exact⟨h1,h2⟩|exact h1|trivial
theorem OA:(Tryz.prog.info? 4).map (fun i=>(i.zero,i.size,i.bytes))=some (some (.bool false),1,1):=by kernel_rfl
abbrev fF(w:World)(b:Nat)(sg:Nat)(q1 q2:Option Addr):Prop:=w.heap[b]? =some (.cells #[.int .u8 sg,.pointer q1,.pointer q2] 179 (0,0))
theorem iE{w:World}{b sg:Nat}{q1 q2:Option Addr}(h:fF w b sg q1 q2):w.cell? ⟨b,0,none⟩=some (.int .u8 sg)∧w.cell? ⟨b,1,none⟩=some (.pointer q1)∧w.cell? ⟨b,2,none⟩=some (.pointer q2)∧b<w.heap.size:=by
 refine⟨?_,?_,?_,(Array.getElem?_eq_some_iff.1 h).1⟩<;>simp[World.cell?,show w.heap[b]? =_ from h]
theorem fE(t:Int)(m:Nat)(x:bD)(b:Nat)(q1 q2:Option Addr)(w:World)(hx:eI t x=true)(h1:1≤t)(h3:t≤3)(hs:(m:Int)≤aJ t)(hnode:fF w b (BG x) q1 q2)
  (hk1:∀W,Below w.heap.size w W→Calls Tryz.prog 153 #[.int .i64 t,.int .i64 m,.pointer q1] W (sT (rC t m x) W))
  (hk2:∀W,Below w.heap.size w W→Calls Tryz.prog 153 #[.int .i64 t,.int .i64 m,.pointer q2] W (sT (rN t m x) W)):
  Calls Tryz.prog 153 #[.int .i64 t,.int .i64 m,.pointer (some ⟨b,0,none⟩)] w (sT (fun W v=>bY W v m (aN t x)) w):=by
 have hal:=(bH t).2
 have hm:m<256:=by omega
 refine(callsIn_wide (n:=5)).1 ?_
 have HK1:=zH hk1
 have HK2:=zH hk2
 obtain⟨hc0,hc1,hc2,hlt⟩:=iE hnode
 have HN:=zH hnode
 clear hk1 hk2 hnode hal
 refine callsIn_of_wp_marks Tryz.func153 rfl trivial ?_ rfl
 simp only[Tryz.ntmps153,List.size_toArray,List.length_cons,List.length_nil,Nat.reduceAdd,Nat.reduceSub,Array.replicate_succ,Array.replicate_zero,List.push_toArray,List.append_toArray,List.nil_append,List.cons_append]
 gi_wp2_with fail
 obtain⟨W1,hW1⟩:∃W1,(w.alloc (.cells #[.int .i64 t] 3)).alloc (.cells #[.pointer (some ⟨b,0,none⟩)] 156)=W1:=⟨_,rfl⟩
 have X0:Boxed W1 w.heap.size 3 (.int .i64 t):=by rw[←hW1];exact(Boxed.new w 3 (.int .i64 t)).alloc _
 have X1:Boxed W1 (w.heap.size+1) 156 (.pointer (some ⟨b,0,none⟩)):=by rw[←hW1];have:=Boxed.new (w.alloc (.cells #[.int .i64 t] 3)) 156 (.pointer (some ⟨b,0,none⟩));rwa [World.size_alloc] at this
 have B1:Below w.heap.size w W1:=by rw[←hW1];exact((Below.refl _ w).alloc (Nat.le_refl _) _).alloc (by simp) _
 have HSZ:Hid (w.heap.size+2≤W1.heap.size):=by unfold Hid;rw[←hW1];simp
 rw[hW1]
 have hx0:=X0.cell
 have hx1:=X1.cell
 have hn1:W1.cell? ⟨b,1,none⟩=some (.pointer q1):=(B1.cell (p:=⟨b,1,none⟩) hlt).trans hc1
 have HB1:=zH B1
 have HX0:=zH X0
 replace HN:=zH ((B1.block b hlt).trans HN.out)
 have HX1:=zH X1
 have HLT:=zH hlt
 clear hW1 B1 X0 X1 hc0 hc1 hc2 hlt
 have hsz:w.heap.size+2≤W1.heap.size:=HSZ.out
 have HBd7:Hid (Below w.heap.size w W1.drew):=aE HB1.out 1
 have HBa7:Hid (Below w.heap.size w (W1.alloc (.cells #[.slice none 0 0] 176)).drew):=aE (HB1.out.alloc HB1.out.size _) 1
 have X0a7:Hid (Boxed (W1.alloc (.cells #[.slice none 0 0] 176)).drew w.heap.size 3 (.int .i64 t)):=HX0.out.alloc _
 have X1a7:Hid (Boxed (W1.alloc (.cells #[.slice none 0 0] 176)).drew (w.heap.size+1) 156 (.pointer (some ⟨b,0,none⟩))):=HX1.out.alloc _
 have XBa7:Hid (Boxed (W1.alloc (.cells #[.slice none 0 0] 176)).drew W1.heap.size 176 (.slice none 0 0)):=Boxed.new W1 _ _
 have XNa7:Hid ((W1.alloc (.cells #[.slice none 0 0] 176)).drew.cell? ⟨b,1,none⟩=some (.pointer q1)):=(((Below.refl _ W1).alloc (Nat.le_refl _) _).cell (p:=⟨b,1,none⟩) (by have:=HLT.out;show b<_;omega)).trans hn1
 gi_cut [7] from 13 (fun sv wc=>∃Bk A n c,sv= .pointer (some ⟨Bk,0,none⟩)∧Boxed wc Bk 176 (.slice A n c)∧w.heap.size≤Bk∧rC t m x wc (.slice A n c)∧Below W1.heap.size W1 wc)
 case first=>
  refine wpIn_wide.2 ?_
  go_region_held3 (fun w' =>w'.cell? ⟨w.heap.size,0,none⟩=some (.int .i64 t)∧w'.cell? ⟨w.heap.size+1,0,none⟩=some (.pointer (some ⟨b,0,none⟩))∧w'.cell? ⟨b,1,none⟩=some (.pointer q1))
   (first|go_keep|exact⟨he0,he1,he2⟩|exact⟨(World.cell?_setCell_far _ _ _ _ (by show W1.heap.size≠w.heap.size;omega)).trans he0,(World.cell?_setCell_far _ _ _ _ (by show W1.heap.size≠w.heap.size+1;omega)).trans he1,(World.cell?_setCell_far _ _ _ _ (by show W1.heap.size≠b;have:=HLT.out;omega)).trans he2⟩)
   (first
    |(go_at_call 153;((with_reducible refine(HK1.out W1.drew HBd7.out).mono ?_));rintro e w2 ⟨A,n,c,rfl,hP,hb⟩;have he0:=(hb.cell (p:=⟨w.heap.size,0,none⟩) (by simp;omega)).trans hx0;have he1:=(hb.cell (p:=⟨w.heap.size+1,0,none⟩) (by simp;omega)).trans hx1;have he2:=(hb.cell (p:=⟨b,1,none⟩) (by have:=HLT.out;simp;omega)).trans hn1;have HB2:=zH hb;have HP:=zH hP;clear hb hP)
    |(go_at_call 153;((with_reducible refine(HK1.out (W1.alloc (.cells #[.slice none 0 0] 176)).drew HBa7.out).mono ?_));rintro e w2 ⟨A,n,c,rfl,hP,hb⟩;have he0:=(hb.cell (p:=⟨w.heap.size,0,none⟩) (by simp;omega)).trans ((X0a7.out).cell);have he1:=(hb.cell (p:=⟨w.heap.size+1,0,none⟩) (by simp;omega)).trans ((X1a7.out).cell);have he2:=(hb.cell (p:=⟨b,1,none⟩) (by have:=HLT.out;simp;omega)).trans XNa7.out;have XB2:=zH (Boxed.below XBa7.out hb);have he3:=XB2.out.cell;have he4:=XB2.out.frozen;have HB2:=zH hb;have HP:=zH hP;clear hb hP))
  all_goals
   gi_wp2_with fail
   gi_meet
   case rel=>
    first
     |exact⟨_,_,_,_,rfl,Boxed.new _ _ _,by have:=zHq HB2.out;omega,rC.below HP.out ((Below.refl _ _).alloc (Nat.le_refl _) _),JX HB2.out _⟩
     |exact⟨_,_,_,_,rfl,XB2.out.set _,by omega,rC.set HP.out XB2.out _,JS HB2.out _⟩
 case rest=>
  obtain⟨B7,A1,n1,c1,rfl,X7,hB7,hk1,hb7⟩:=hcut
  have hszc:w.heap.size+2≤wc.heap.size:=by have:=hb7.size;omega
  replace HB1:=zH (aA HB1.out (hb7.mono (Nat.le_refl _)))
  replace HX0:=zH (Boxed.below HX0.out hb7)
  replace HX1:=zH (Boxed.below HX1.out hb7)
  replace HN:=zH ((hb7.block b (by have:=HLT.out;omega)).trans HN.out)
  have hx0:=HX0.out.cell
  have hx1:=HX1.out.cell
  have hn2:=(iE HN.out).2.2.1
  have HX7:=zH X7
  have HKD1:=zH hk1
  have hlt7:B7<wc.heap.size:=X7.lt
  clear X7 hk1 hb7
  obtain⟨W2,rfl⟩:∃W2,W2=wc:=⟨_,rfl⟩
  gi_wp2_with fail
  have HBd8:Hid (Below w.heap.size w W2.drew):=aE HB1.out 1
  have HBa8:Hid (Below w.heap.size w (W2.alloc (.cells #[.slice none 0 0] 176)).drew):=aE (HB1.out.alloc HB1.out.size _) 1
  have X0a8:Hid (Boxed (W2.alloc (.cells #[.slice none 0 0] 176)).drew w.heap.size 3 (.int .i64 t)):=HX0.out.alloc _
  have X1a8:Hid (Boxed (W2.alloc (.cells #[.slice none 0 0] 176)).drew (w.heap.size+1) 156 (.pointer (some ⟨b,0,none⟩))):=HX1.out.alloc _
  have XBa8:Hid (Boxed (W2.alloc (.cells #[.slice none 0 0] 176)).drew W2.heap.size 176 (.slice none 0 0)):=Boxed.new W2 _ _
  have XNa8:Hid ((W2.alloc (.cells #[.slice none 0 0] 176)).drew.cell? ⟨b,2,none⟩=some (.pointer q2)):=(((Below.refl _ W2).alloc (Nat.le_refl _) _).cell (p:=⟨b,2,none⟩) (by have:=HLT.out;show b<_;omega)).trans hn2
  gi_cut [8] from 20 (fun sv wc=>∃Bk A n c,sv= .pointer (some ⟨Bk,0,none⟩)∧Boxed wc Bk 176 (.slice A n c)∧w.heap.size≤Bk∧rN t m x wc (.slice A n c)∧Below W2.heap.size W2 wc)
  case first=>
   refine wpIn_wide.2 ?_
   go_region_held3 (fun w' =>w'.cell? ⟨w.heap.size,0,none⟩=some (.int .i64 t)∧w'.cell? ⟨w.heap.size+1,0,none⟩=some (.pointer (some ⟨b,0,none⟩))∧w'.cell? ⟨b,2,none⟩=some (.pointer q2))
    (first|go_keep|exact⟨he0,he1,he2⟩|exact⟨(World.cell?_setCell_far _ _ _ _ (by show W2.heap.size≠w.heap.size;omega)).trans he0,(World.cell?_setCell_far _ _ _ _ (by show W2.heap.size≠w.heap.size+1;omega)).trans he1,(World.cell?_setCell_far _ _ _ _ (by show W2.heap.size≠b;have:=HLT.out;omega)).trans he2⟩)
    (first
     |(go_at_call 153;((with_reducible refine(HK2.out W2.drew HBd8.out).mono ?_));rintro e w2 ⟨A,n,c,rfl,hP,hb⟩;have he0:=(hb.cell (p:=⟨w.heap.size,0,none⟩) (by simp;omega)).trans hx0;have he1:=(hb.cell (p:=⟨w.heap.size+1,0,none⟩) (by simp;omega)).trans hx1;have he2:=(hb.cell (p:=⟨b,2,none⟩) (by have:=HLT.out;simp;omega)).trans hn2;have HB2:=zH hb;have HP:=zH hP;clear hb hP)
     |(go_at_call 153;((with_reducible refine(HK2.out (W2.alloc (.cells #[.slice none 0 0] 176)).drew HBa8.out).mono ?_));rintro e w2 ⟨A,n,c,rfl,hP,hb⟩;have he0:=(hb.cell (p:=⟨w.heap.size,0,none⟩) (by simp;omega)).trans ((X0a8.out).cell);have he1:=(hb.cell (p:=⟨w.heap.size+1,0,none⟩) (by simp;omega)).trans ((X1a8.out).cell);have he2:=(hb.cell (p:=⟨b,2,none⟩) (by have:=HLT.out;simp;omega)).trans XNa8.out;have XB2:=zH (Boxed.below XBa8.out hb);have he3:=XB2.out.cell;have he4:=XB2.out.frozen;have HB2:=zH hb;have HP:=zH hP;clear hb hP))
   all_goals
    gi_wp2_with fail
    gi_meet
    case rel=>
     first
      |exact⟨_,_,_,_,rfl,Boxed.new _ _ _,by have:=zHq HB2.out;omega,rN.below HP.out ((Below.refl _ _).alloc (Nat.le_refl _) _),JX HB2.out _⟩
      |exact⟨_,_,_,_,rfl,XB2.out.set _,by omega,rN.set HP.out XB2.out _,JS HB2.out _⟩
  case rest=>
   obtain⟨B8,A2,n2,c2,rfl,X8,hB8,hk2,hb8⟩:=hcut
   have hszd:w.heap.size+2≤wc.heap.size:=by have:=hb8.size;omega
   obtain⟨W3,rfl⟩:∃W3,W3=wc:=⟨_,rfl⟩
   replace HB1:=zH (aA HB1.out hb8)
   replace HX0:=zH (Boxed.below HX0.out hb8)
   replace HX1:=zH (Boxed.below HX1.out hb8)
   replace HN:=zH ((hb8.block b (by have:=HLT.out;omega)).trans HN.out)
   replace HX7:=zH (Boxed.below HX7.out hb8)
   have HX8:=zH X8
   have HKT:=zH (OY (HKD1.out.below hb8) hk2)
   have hlt8:B8<W3.heap.size:=X8.lt
   have hlt7:B7<W3.heap.size:=by have:=hb8.size;omega
   clear X8 hk2 hb8 HKD1 hn1 hn2 hx0 hx1
   have hmk:=fun W=>run_make_row' (P:=Tryz.prog) 176 4 (.bool false) 1 Tryz.underlying176 OA rfl .i64 .i64 (m+1) (by omega) (by omega) W
   push_cast at hmk
   gi_wp2_with (refine⟨trivial,?_⟩;gi_at_call 171;refine(yG _ _ _).mono ?_;rintro e w' ⟨rfl,rfl⟩)
   clear hmk
   have R0:=World.rowIs_made W3 (.bool false) (m+1) 4
   have X9:=Boxed.new (W3.alloc (.cells (madeCells #[.bool false] (m+1)) 4)) 176 (.slice (some ⟨W3.heap.size,0,none⟩) (m+1) (m+1))
   have XS:=Boxed.new ((W3.alloc (.cells (madeCells #[.bool false] (m+1)) 4)).alloc (.cells #[.slice (some ⟨W3.heap.size,0,none⟩) (m+1) (m+1)] 176)) 3 (.int .i64 m)
   simp only[World.size_alloc] at X9 XS
   have hB4:Below W3.heap.size W3 (((W3.alloc (.cells (madeCells #[.bool false] (m+1)) 4)).alloc (.cells #[.slice (some ⟨W3.heap.size,0,none⟩) (m+1) (m+1)] 176)).alloc (.cells #[.int .i64 m] 3)):=(((Below.refl _ W3).alloc (Nat.le_refl _) _).alloc (by simp) _).alloc (by simp;omega) _
   refine wpIn_rangeFunc_ownF rfl (by decide) (gf:=188) (lb:= #[.pointer (some ⟨W3.heap.size+1+1,0,none⟩)]) rfl trivial (enters_of Tryz.func188 (by kernel_rfl) rfl)
    (xV 4 (by decide) (W3.heap.size+1+1) m (by omega) (by omega) _ (by simp) XS.cell) (fun h k=>NV h k) (OQ (by simp)) (Below.refl _ _) (fun _=>rfl)
    (fun pre W=>(W.rowIs W3.heap.size 4 (m+1) (xD (aN t x) pre)∧Boxed W (W3.heap.size+1) 176 (.slice (some ⟨W3.heap.size,0,none⟩) (m+1) (m+1))∧W3.heap.size+3≤W.heap.size)∧Below W3.heap.size W3 W)
    (fun _ _ _=>False)
    (OwnFrom.and (Own.from (fun s A B row hs hg hr=>⟨GX hs.1 hg hr,pL hs.2.1 hg hr,Nat.le_trans hs.2.2 hg.size⟩) _) (ownFrom_below (Nat.le_refl _) (by simp;omega)))
    (fun _ _ _ _ _ hs _ _=>hs)
    ⟨⟨((R0.alloc _).alloc _).congr (fun i hi=>rfl),X9.alloc _,by simp⟩,hB4⟩
    (fun y=>{tmps:= #[.int .i64 t,.int .i64 m,.pointer (some ⟨b,0,none⟩),.pointer (some ⟨w.heap.size,0,none⟩),undef,.pointer (some ⟨w.heap.size+1,0,none⟩),.slice none 0 0,.pointer (some ⟨B7,0,none⟩),.pointer (some ⟨B8,0,none⟩),.pointer (some ⟨W3.heap.size+1,0,none⟩),.int .i64 y.1,.pointer (some ⟨b,0,none⟩),.bool false,u13,u14,u15,u16,u17,u18,u19,u20,u21,u22,u23,u24,u25,u26,.int .i64 m,.int .i64 (m+1),.slice (some ⟨W3.heap.size,0,none⟩) (m+1) (m+1),.int .i64 m,.func (.func 188) #[] #[.pointer (some ⟨W3.heap.size+1+1,0,none⟩)],.int .i64 y.1,u33,u34,u35,u36,u37,u38,u39,u40,u41,u42,u43,u44,u45],defers:=[]}) ?assign ?body ?done ?stop
   case assign=>
    intro l y W K hK
    gi_wp2
    exact hK
   case body=>
    rintro l pre y W ⟨⟨hR,h9,hszW⟩,hB⟩ _
    have hy0:=y.2.1
    have hy1:=y.2.2.1
    have HKY:Hid (lF W.drew t x y.1 (.slice A1 n1 c1) (.slice A2 n2 c2)):=(HKT.out.below (below_drewN hB 1)).sub (s2:=y.1) hy0 y.2.2.2
    have hsg:=zH (iE ((hB.block b (by have:=HLT.out;omega)).trans HN.out)).1
    have HS:Hid (oI w.heap.size b B7 B8 W3.heap.size m t (BG x) (.slice A1 n1 c1) (.slice A2 n2 c2) W.drew):=
     ⟨h9.cell,(Boxed.below HX0.out hB).cell,(Boxed.below HX1.out hB).cell,hsg.out,(Boxed.below HX7.out hB).cell,(Boxed.below HX8.out hB).cell⟩
    have hi1:y.1<(m:Int)+1:=by omega
    have hcT:=hR.cell (i:=y.1.toNat) (by omega)
    have hfT:=hR.frozen y.1.toNat
    have HR:=zH hR
    have HBW:=zH hB
    have H9:=zH h9
    clear hB hR h9
    gi_wp2
    refine LU (S:=oI w.heap.size b B7 B8 W3.heap.size m t (BG x) (.slice A1 n1 c1) (.slice A2 n2 c2)) (by kernel_rfl) (by kernel_rfl) (fun⟨_,_,h⟩=>h) HS.out (fun hHeld=> ?_)
    refine wpAnyH_take (i:=0) (v:= ?_) rfl (by kernel_rfl) (by kernel_rfl) (by kernel_rfl) (fun _ _ _ h=>h) (Or.inl ⟨by rfl,?hy⟩) hHeld ?_
    case hy=>intro w' hSw;obtain⟨f1,f2,f3,f4,f5,f6⟩:=hSw;go_simp;try with_reducible rfl
    simp only[Act.put,zS]
    refine wpAnyH_take (i:=1) (v:= ?_) rfl (by kernel_rfl) (by kernel_rfl) (by kernel_rfl) (fun _ _ _ h=>h) (Or.inl ⟨by rfl,?hy⟩) hHeld ?_
    case hy=>intro w' hSw;obtain⟨f1,f2,f3,f4,f5,f6⟩:=hSw;go_simp;try with_reducible rfl
    simp only[Act.put,zS]
    refine wpAnyH_take (i:=2) (v:= ?_) rfl (by kernel_rfl) (by kernel_rfl) (by kernel_rfl) (fun _ _ _ h=>h) (Or.inl ⟨by rfl,?hy⟩) hHeld ?_
    case hy=>intro w' hSw;obtain⟨f1,f2,f3,f4,f5,f6⟩:=hSw;go_simp;try with_reducible rfl
    simp only[Act.put,zS]
    refine wpAnyH_take (i:=3) (v:= ?_) rfl (by kernel_rfl) (by kernel_rfl) (by kernel_rfl) (fun _ _ _ h=>h) (Or.inl ⟨by rfl,?hy⟩) hHeld ?_
    case hy=>intro w' hSw;obtain⟨f1,f2,f3,f4,f5,f6⟩:=hSw;go_simp;try with_reducible rfl
    simp only[Act.put,zS]
    refine wpAnyH_take (i:=4) (v:= ?_) rfl (by kernel_rfl) (by kernel_rfl) (by kernel_rfl) (fun _ _ _ h=>h) (Or.inl ⟨by rfl,?hy⟩) hHeld ?_
    case hy=>intro w' hSw;obtain⟨f1,f2,f3,f4,f5,f6⟩:=hSw;go_simp;try with_reducible rfl
    simp only[Act.put,zS]
    refine wpAnyH_take (i:=5) (v:= ?_) rfl (by kernel_rfl) (by kernel_rfl) (by kernel_rfl) (fun _ _ _ h=>h) (Or.inl ⟨by rfl,?hy⟩) hHeld ?_
    case hy=>intro w' hSw;obtain⟨f1,f2,f3,f4,f5,f6⟩:=hSw;go_simp;try with_reducible rfl
    simp only[Act.put,zS]
    refine wpAnyH_take (i:=6) (v:= ?_) rfl (by kernel_rfl) (by kernel_rfl) (by kernel_rfl) (fun _ _ _ h=>h) (Or.inl ⟨by rfl,?hy⟩) hHeld ?_
    case hy=>intro w' hSw;obtain⟨f1,f2,f3,f4,f5,f6⟩:=hSw;go_simp;try with_reducible rfl
    simp only[Act.put,zS]
    refine wpAnyH_take (i:=7) (v:= ?_) rfl (by kernel_rfl) (by kernel_rfl) (by kernel_rfl) (fun _ _ _ h=>h) (Or.inl ⟨by rfl,?hy⟩) hHeld ?_
    case hy=>intro w' hSw;obtain⟨f1,f2,f3,f4,f5,f6⟩:=hSw;go_simp;try with_reducible rfl
    simp only[Act.put,zS]
    refine wpAnyH_take (i:=8) (v:= ?_) rfl (by kernel_rfl) (by kernel_rfl) (by kernel_rfl) (fun _ _ _ h=>h) (Or.inl ⟨by rfl,?hy⟩) hHeld ?_
    case hy=>intro w' hSw;obtain⟨f1,f2,f3,f4,f5,f6⟩:=hSw;go_simp;try with_reducible rfl
    simp only[Act.put,zS]
    refine wpAnyH_take (i:=9) (v:= ?_) rfl (by kernel_rfl) (by kernel_rfl) (by kernel_rfl) (fun _ _ _ h=>h) (Or.inl ⟨by rfl,?hy⟩) hHeld ?_
    case hy=>intro w' hSw;obtain⟨f1,f2,f3,f4,f5,f6⟩:=hSw;go_simp;try with_reducible rfl
    simp only[Act.put,zS]
    refine wpAnyH_ready (rs:=[10]) (by kernel_rfl) (by simp) (AllReadyH.cons (i:=10) rfl (fun K hK=> ?_) AllReadyH.nil)
    go_simp
    go_at_call 172
    ((with_reducible refine(TY t y.1 x (.slice A1 n1 c1) (.slice A2 n2 c2) W.drew hx h1 h3 hy0 (by omega) HKY.out).mono ?_))
    rintro e w2 ⟨rfl,hb⟩
    have HB2:=zH hb
    have HCT:=zH ((hb.cell (p:=⟨W3.heap.size,y.1.toNat,none⟩) (by show W3.heap.size<W.heap.size;omega)).trans hcT)
    have HFT:=zH ((hb.frozen (p:=⟨W3.heap.size,y.1.toNat,none⟩) (by show W3.heap.size<W.heap.size;omega)).trans hfT)
    clear hb hcT hfT
    refine hK.out _ _ (hHeld.below HB2.out) (fun hHeld2=> ?_)
    clear hK K hHeld
    refine wpAnyH_take (i:=11) (v:= ?_) rfl (by kernel_rfl) (by kernel_rfl) (by kernel_rfl) (fun _ _ _ h=>h) (Or.inl ⟨by rfl,?hy⟩) hHeld2 ?_
    case hy=>intro w' hSw;clear hSw;go_simp;try with_reducible rfl
    simp only[Act.put,zS]
    refine wpAnyH_ready (rs:=[12]) (by kernel_rfl) (by simp) (AllReadyH.cons (i:=12) rfl (fun K hK=> ?_) AllReadyH.nil)
    have hct:=HCT.out
    have hft:=HFT.out
    go_simp
    clear hct hft
    have HST:=zH (hHeld2.keep (w' :=w2.setCell ⟨W3.heap.size,y.1.toNat,none⟩ (.bool (aN t x y.1))) (fun a ha _=>World.cell?_setCell_far _ _ _ _ (Ne.symm ha)) (by omega) (by omega) (by have:=HLT.out;omega) hlt7 hlt8)
    refine hK.out _ _ HST.out (fun _=> ?_)
    clear hK K
    refine wpAnyH_done (by kernel_rfl) ?_ _
    have hb2:Below W.heap.size W w2:=(below_drewN (Below.refl _ W) 1).trans HB2.out
    have hs2:=hb2.size
    have hkp:Below W3.heap.size W3 w2:=HBW.out.trans (hb2.mono (by omega))
    have hrow:w2.rowIs W3.heap.size 4 (m+1) (xD (aN t x) pre):=HR.out.of_block (hb2.block _ (by omega))
    refine⟨(IJ hb2).trans (KeepsOthers.setCell _ _ _),?_,⟨?_,?_,?_⟩,?_⟩
    ·exact(Below.heap_setCell _ _ _ _ (by show W3.heap.size+1+1≠W3.heap.size;omega)).trans (hb2.block _ (by omega))
    ·exact(hrow.set y.1.toNat (.bool (aN t x y.1))).congr (fun i _=>MI pre y i)
    ·exact((Below.heap_setCell _ _ _ _ (by show W3.heap.size+1≠W3.heap.size;omega)).trans (hb2.block _ (by omega))).trans H9.out
    ·have:=(KeepsWalks.setCell w2 ⟨W3.heap.size,y.1.toNat,none⟩ (.bool (aN t x y.1))).size;omega
    ·exact hkp.setCell (p:=⟨W3.heap.size,y.1.toNat,none⟩) (Nat.le_refl _) _
   case done=>
    rintro D ys W hD hfull ⟨⟨hR,h9,hszW⟩,hB⟩ hK
    have hc9:=h9.cell
    have HR:=zH (GX hR (grownBy_putObj' W D (.deferred none)) (fun r e=>by cases e;exact⟨_,hK,rfl⟩))
    have HBB:=zH (((HB1.out.trans (hB.mono (by omega))).trans (belowK_b (w:=w) (Nat.le_refl _) W D _ (.deferred none) (by simp at hD;omega) hK rfl rfl)))
    gi_wp2
    refine⟨by simp,.inl ⟨_,_,rfl,run_takeDeferred hK,?_⟩⟩
    refine⟨_,results_tmp rfl _ _ _,_,_,_,rfl,⟨_,_,_,_,rfl,HR.out.lt,fun u h0 hu=> ?_⟩,HBB.out⟩
    have hle:=gZ hu (by omega)
    refine⟨by omega,?_⟩
    have:=HR.out.cell (i:=u.toNat) (by omega)
    rw[Nat.zero_add,this]
    unfold xD
    rw[Int.toNat_of_nonneg h0,decide_eq_true (List.mem_map.2 ⟨⟨u,h0,hle,hu⟩,hfull _,rfl⟩)]
    rfl
   case stop=>
    rintro D c pre W _ _ h _
    exact h.elim
end Go.Proofs.YtfhjcacfchkdpaaGreatDoor
namespace Go.Proofs.YtfhjcacfchkdpaaGreatDoor
open Go.RowKit
def bO(w:World)(lo:Nat):bD→Option Addr→Prop
 | .no a,p=>∃b q,p=some ⟨b,0,none⟩∧lo≤b∧fF w b 33 q none∧bO w lo a q
 | .ask a,p=>∃b q,p=some ⟨b,0,none⟩∧lo≤b∧fF w b 63 q none∧bO w lo a q
 | .and_ a c,p=>∃b q r,p=some ⟨b,0,none⟩∧lo≤b∧fF w b 38 q r∧bO w lo a q∧bO w lo c r
 | .or_ a c,p=>∃b q r,p=some ⟨b,0,none⟩∧lo≤b∧fF w b 124 q r∧bO w lo a q∧bO w lo c r
 | .if_ a c,p=>∃b q r,p=some ⟨b,0,none⟩∧lo≤b∧fF w b 62 q r∧bO w lo a q∧bO w lo c r
 | .one,p=>∃b,p=some ⟨b,0,none⟩∧lo≤b∧fF w b 49 none none
 | .zero,p=>∃b,p=some ⟨b,0,none⟩∧lo≤b∧fF w b 48 none none
 | .thing i,p=>∃b,p=some ⟨b,0,none⟩∧lo≤b∧fF w b (97+i) none none
theorem fF.keep{w w' :World}{b sg:Nat}{q r:Option Addr}(h:fF w b sg q r){lo:Nat}(hlo:lo≤b)(hk:∀b,lo≤b→b<w.heap.size→w'.heap[b]? =w.heap[b]?):fF w' b sg q r:=
 (hk b hlo (Array.getElem?_eq_some_iff.1 h).1).trans h
theorem bO.keep{w w' :World}{lo:Nat}(hk:∀b,lo≤b→b<w.heap.size→w'.heap[b]? =w.heap[b]?):∀(x:bD) (p:Option Addr),bO w lo x p→bO w' lo x p
 | .no a,_,⟨b,q,hp,hl,hn,h⟩=>⟨b,q,hp,hl,hn.keep hl hk,bO.keep hk a q h⟩
 | .ask a,_,⟨b,q,hp,hl,hn,h⟩=>⟨b,q,hp,hl,hn.keep hl hk,bO.keep hk a q h⟩
 | .and_ a c,_,⟨b,q,r,hp,hl,hn,h,h2⟩=>⟨b,q,r,hp,hl,hn.keep hl hk,bO.keep hk a q h,bO.keep hk c r h2⟩
 | .or_ a c,_,⟨b,q,r,hp,hl,hn,h,h2⟩=>⟨b,q,r,hp,hl,hn.keep hl hk,bO.keep hk a q h,bO.keep hk c r h2⟩
 | .if_ a c,_,⟨b,q,r,hp,hl,hn,h,h2⟩=>⟨b,q,r,hp,hl,hn.keep hl hk,bO.keep hk a q h,bO.keep hk c r h2⟩
 | .one,_,⟨b,hp,hl,hn⟩=>⟨b,hp,hl,hn.keep hl hk⟩
 | .zero,_,⟨b,hp,hl,hn⟩=>⟨b,hp,hl,hn.keep hl hk⟩
 | .thing _,_,⟨b,hp,hl,hn⟩=>⟨b,hp,hl,hn.keep hl hk⟩
theorem bO.below{w w' :World}{lo:Nat}{x:bD}{p:Option Addr}(h:bO w lo x p)(hb:Below w.heap.size w w'):bO w' lo x p:=
 bO.keep (fun b _ hlt=>hb.block b hlt) x p h
theorem bO.grown{w w' :World}{lo R:Nat}{x:bD}{p:Option Addr}(h:bO w lo x p)(hg:w.grownBy w' (some R))(hR:R<lo):bO w' lo x p:=
 bO.keep (fun b hl hlt=>hg.block b hlt (fun e=>by cases e;omega)) x p h
theorem bO.low{w:World}{lo lo' :Nat}(hlo:lo'≤lo):∀(x:bD) (p:Option Addr),bO w lo x p→bO w lo' x p
 | .no a,_,⟨b,q,hp,hl,hn,h⟩=>⟨b,q,hp,by omega,hn,bO.low hlo a q h⟩
 | .ask a,_,⟨b,q,hp,hl,hn,h⟩=>⟨b,q,hp,by omega,hn,bO.low hlo a q h⟩
 | .and_ a c,_,⟨b,q,r,hp,hl,hn,h,h2⟩=>⟨b,q,r,hp,by omega,hn,bO.low hlo a q h,bO.low hlo c r h2⟩
 | .or_ a c,_,⟨b,q,r,hp,hl,hn,h,h2⟩=>⟨b,q,r,hp,by omega,hn,bO.low hlo a q h,bO.low hlo c r h2⟩
 | .if_ a c,_,⟨b,q,r,hp,hl,hn,h,h2⟩=>⟨b,q,r,hp,by omega,hn,bO.low hlo a q h,bO.low hlo c r h2⟩
 | .one,_,⟨b,hp,hl,hn⟩=>⟨b,hp,by omega,hn⟩
 | .zero,_,⟨b,hp,hl,hn⟩=>⟨b,hp,by omega,hn⟩
 | .thing _,_,⟨b,hp,hl,hn⟩=>⟨b,hp,by omega,hn⟩
theorem fQ(t s:Int)(w:World)(P:World→Value→Prop)(hP:∀W v,P W v):Calls Tryz.prog 153 #[.int .i64 t,.int .i64 s,.pointer none] w (sT P w):=by
 have HP:=zH hP
 clear hP
 go_enter Tryz.func153,Tryz.ntmps153
 go_wp2_with fail
 go_ret
 exact⟨_,_,_,rfl,HP.out _ _,((Below.refl _ _).alloc (Nat.le_refl _) _).alloc (by simp) _⟩
theorem iD(t:Int)(m:Nat)(h1:1≤t)(h3:t≤3)(hs:(m:Int)≤aJ t):∀(x:bD) (p:Option Addr) (lo:Nat) (w:World),eI t x=true→bO w lo x p→
  Calls Tryz.prog 153 #[.int .i64 t,.int .i64 m,.pointer p] w (sT (fun W v=>bY W v m (aN t x)) w)
 | .no a,_,lo,w,hx,⟨b,q,rfl,_,hn,h⟩=>fE t m (.no a) b q none w hx h1 h3 hs hn (fun W hb=>iD t m h1 h3 hs a q lo W hx (h.below hb)) (fun W _=>fQ t m W _ (fun _ _=>trivial))
 | .ask a,_,lo,w,hx,⟨b,q,rfl,_,hn,h⟩=>fE t m (.ask a) b q none w hx h1 h3 hs hn (fun W hb=>iD t m h1 h3 hs a q lo W hx (h.below hb)) (fun W _=>fQ t m W _ (fun _ _=>trivial))
 | .and_ a c,_,lo,w,hx,⟨b,q,r,rfl,_,hn,h,h2⟩=>by
   have hx2:=hx
   unfold eI at hx2
   rw[Bool.and_eq_true] at hx2
   exact fE t m (.and_ a c) b q r w hx h1 h3 hs hn (fun W hb=>iD t m h1 h3 hs a q lo W hx2.1 (h.below hb)) (fun W hb=>iD t m h1 h3 hs c r lo W hx2.2 (h2.below hb))
 | .or_ a c,_,lo,w,hx,⟨b,q,r,rfl,_,hn,h,h2⟩=>by
   have hx2:=hx
   unfold eI at hx2
   rw[Bool.and_eq_true] at hx2
   exact fE t m (.or_ a c) b q r w hx h1 h3 hs hn (fun W hb=>iD t m h1 h3 hs a q lo W hx2.1 (h.below hb)) (fun W hb=>iD t m h1 h3 hs c r lo W hx2.2 (h2.below hb))
 | .if_ a c,_,lo,w,hx,⟨b,q,r,rfl,_,hn,h,h2⟩=>by
   have hx2:=hx
   unfold eI at hx2
   rw[Bool.and_eq_true] at hx2
   exact fE t m (.if_ a c) b q r w hx h1 h3 hs hn (fun W hb=>iD t m h1 h3 hs a q lo W hx2.1 (h.below hb)) (fun W hb=>iD t m h1 h3 hs c r lo W hx2.2 (h2.below hb))
 | .one,_,_,w,hx,⟨b,rfl,_,hn⟩=>fE t m .one b none none w hx h1 h3 hs hn (fun W _=>fQ t m W _ (fun _ _=>trivial)) (fun W _=>fQ t m W _ (fun _ _=>trivial))
 | .zero,_,_,w,hx,⟨b,rfl,_,hn⟩=>fE t m .zero b none none w hx h1 h3 hs hn (fun W _=>fQ t m W _ (fun _ _=>trivial)) (fun W _=>fQ t m W _ (fun _ _=>trivial))
 | .thing i,_,_,w,hx,⟨b,rfl,_,hn⟩=>fE t m (.thing i) b none none w hx h1 h3 hs hn (fun W _=>fQ t m W _ (fun _ _=>trivial)) (fun W _=>fQ t m W _ (fun _ _=>trivial))
theorem M6(t:Int)(m:Nat)(h1:1≤t)(h3:t≤3)(hs:(m:Int)≤aJ t)(x:bD)(p:Option Addr)(lo:Nat)(w:World)(hx:eI t x=true)(h:bO w lo x p):
  Calls Tryz.prog 139 #[.int .i64 t,.int .i64 m,.pointer p] w fun e w' =>e= .returned (.bool (aN t x m))∧Below w.heap.size w w' :=by
 have HS:=zH (iD t m h1 h3 hs x p lo w hx h)
 clear hx h
 go_enter Tryz.func139,Tryz.ntmps139
 go_wp2_with fail
 refine HS.out.mono ?_
 rintro e w2 ⟨_,_,_,rfl,⟨b,o,n,c,he,hT⟩,hb⟩
 cases he
 obtain⟨hlt,hc⟩:=hT.2 m (by omega) (dG m (by omega))
 have hc:w2.cell? ⟨b,o+m,none⟩=some (.bool (aN t x m)):=hc
 have HB:=zH hb
 clear hT hb HS
 go_wp2_with fail
 go_ret
 exact⟨rfl,HB.out⟩
def aG(s:ByteArray):List Nat:=s.data.toList.map UInt8.toNat
theorem bR(s:ByteArray):(aG s).length=s.size:=by unfold aG;rw[List.length_map];rfl
theorem mA{s:ByteArray}{at_:Nat}(h:at_<s.size):(aG s).drop at_=s[at_].toNat::(aG s).drop (at_+1):=by
 rw[List.drop_eq_getElem_cons (by rw[bR];exact h)]
 congr 1
 unfold aG
 rw[List.getElem_map];rfl
abbrev bT(w:World)(R:Nat)(s:ByteArray)(at_:Nat)(st:ByteArray):Prop:=w.heap[R]? =some (.cells #[.string s,.int .i64 at_,.string st] 174 (0,0))
theorem j2{w:World}{R:Nat}{s st:ByteArray}{at_:Nat}(h:bT w R s at_ st):w.cell? ⟨R,0,none⟩=some (.string s)∧w.cell? ⟨R,1,none⟩=some (.int .i64 at_)∧w.cell? ⟨R,2,none⟩=some (.string st)∧w.frozen? ⟨R,1,none⟩=false∧R<w.heap.size:=by
 refine⟨?_,?_,?_,?_,(Array.getElem?_eq_some_iff.1 h).1⟩<;>simp[World.cell?,World.frozen?,show w.heap[R]? =_ from h]
def cM(R:Nat)(w:World)(e:Ending)(w' :World):Prop:=∃v:Value,e= .panicked [{v:= .iface 3 v,recovered:=false}]∧w.grownBy w' (some R)
theorem JR{l:List UInt8}{c:UInt8}:decide (Lib.indexByte l c<0)= !l.contains c:=by
 have:=Lib.indexByte_ge l c
 by_cases h:Lib.indexByte l c<0
 ·have e:Lib.indexByte l c= -1:=by omega
  have hn:=Lib.indexByte_none e
  rw[decide_eq_true h]
  cases hc:l.contains c
  ·rfl
  ·obtain⟨i,hi⟩:=List.mem_iff_getElem?.1 (List.contains_iff_mem.1 hc)
   exact absurd hi (hn i)
 ·obtain⟨o,ho⟩:∃o:Nat,Lib.indexByte l c=o:=⟨(Lib.indexByte l c).toNat,by omega⟩
  have:=(Lib.indexByte_some ho).1
  rw[decide_eq_false h,List.contains_iff_mem.2 (List.mem_of_getElem? this)];rfl
theorem j0(R:Nat)(s st al:ByteArray)(w:World)(_hs:s.size≤1048576)(hr:bT w R s s.size st):
  Calls Tryz.prog 169 #[.pointer (some ⟨R,0,none⟩),.string al] w (cM R w):=by
 obtain⟨hc0,hc1,hc2,hf,hlt⟩:=j2 hr
 have hd:((s.size:Int)==(s.size:Int))=true:=by simp
 clear hr
 go_enter Tryz.func169,Tryz.ntmps169
 go_wp2_with fail
 go_quiet (fail)
 go_wp2_with fail
 exact⟨rfl,_,rfl,eM (World.grownBy.refl _ _) _⟩
theorem RI{w:World}{R:Nat}{s st:ByteArray}{at_:Nat}(h:bT w R s at_ st)(u:Int)(hu:u=((at_+1:Nat):Int)):bT (w.setCell ⟨R,1,none⟩ (.int .i64 u)) R s (at_+1) st:=by
 subst hu
 obtain⟨hlt,e⟩:=Array.getElem?_eq_some_iff.1 h
 show(w.heap.modify R _)[R]? =_
 rw[Array.getElem?_eq_getElem (by rw[Array.size_modify];exact hlt),Array.getElem_modify_self,e]
 rfl
theorem JJ(b:UInt8):(b.toNat:Int).toNat.toUInt8=b:=by simp
theorem mK(R:Nat)(s st al:ByteArray)(at_:Nat)(w:World)(_hs:s.size≤1048576)(hat:at_<s.size)(hr:bT w R s at_ st)(hal:al.data.toList.contains s[at_]=false):
  Calls Tryz.prog 169 #[.pointer (some ⟨R,0,none⟩),.string al] w (cM R w):=by
 obtain⟨hc0,hc1,hc2,hf,hlt⟩:=j2 hr
 have hd:((at_:Int)==(s.size:Int))=false:=by rw[beq_eq_false_iff_ne];omega
 have hi:(at_:Int)<(s.size:Int):=by omega
 have hi0:(0:Int)≤(at_:Int):=by omega
 have hx:decide (Lib.indexByte al.data.toList s[at_]<0)=true:=by rw[JR,hal];rfl
 have HC:Hid (∀W,Calls Tryz.prog 187 #[.string al,.int .u8 (s[at_].toNat)] W fun e w' =>e= .returned (.int .i64 (Lib.indexByte al.data.toList s[at_]))∧w' =W):=fun W=>by
  have:=Tryz.strings_IndexByte al (s[at_].toNat) W
  rwa [JJ] at this
 clear hr hal
 go_enter Tryz.func169,Tryz.ntmps169
 go_wp2_with fail
 go_quiet ((go_at_call 187;exact Calls.quiet_of_same (HC.out _)))
 go_wp2_with fail
 exact⟨rfl,_,rfl,eM (World.grownBy.refl _ _) _⟩
theorem Q3(R:Nat)(s st al:ByteArray)(at_:Nat)(w:World)(hs:s.size≤1048576)(hat:at_<s.size)(hr:bT w R s at_ st)(hal:al.data.toList.contains s[at_]=true):
  Calls Tryz.prog 169 #[.pointer (some ⟨R,0,none⟩),.string al] w fun e w' =>e= .returned (.int .u8 (s[at_].toNat))∧bT w' R s (at_+1) st∧w.grownBy w' (some R):=by
 obtain⟨hc0,hc1,hc2,hf,hlt⟩:=j2 hr
 have hd:((at_:Int)==(s.size:Int))=false:=by rw[beq_eq_false_iff_ne];omega
 have hi:(at_:Int)<(s.size:Int):=by omega
 have hi0:(0:Int)≤(at_:Int):=by omega
 have hx:decide (Lib.indexByte al.data.toList s[at_]<0)=false:=by rw[JR,hal];rfl
 have HC:Hid (∀W,Calls Tryz.prog 187 #[.string al,.int .u8 (s[at_].toNat)] W fun e w' =>e= .returned (.int .i64 (Lib.indexByte al.data.toList s[at_]))∧w' =W):=fun W=>by
  have:=Tryz.strings_IndexByte al (s[at_].toNat) W
  rwa [JJ] at this
 have HR:=zH hr
 clear hr hal
 go_enter Tryz.func169,Tryz.ntmps169
 go_wp2_with fail
 go_quiet ((go_at_call 187;exact Calls.quiet_of_same (HC.out _)))
 go_wp2_with fail
 go_quiet (fail)
 go_wp2_with fail
 go_ret
 exact⟨rfl,RI HR.out _ (by omega),gE (eM (World.grownBy.refl _ _) _) 1 _⟩
theorem eO{R:Nat}{s st al:ByteArray}{at_ c:Nat}{w:World}(hs:s.size≤1048576)(hat:at_<s.size)(hc:s[at_].toNat=c)(hr:bT w R s at_ st)(hal:al.data.toList.contains s[at_]=true):
  Calls Tryz.prog 169 #[.pointer (some ⟨R,0,none⟩),.string al] w fun e w' =>e= .returned (.int .u8 c)∧bT w' R s (at_+1) st∧w.grownBy w' (some R):=by
 subst hc;exact Q3 R s st al at_ w hs hat hr hal
def GR(R:Nat)(s st:ByteArray)(o:Option (bD×List Nat))(w:World)(e:Ending)(w' :World):Prop:=
 match o with
 |some (x,rest)=>∃p at_,e= .returned (.pointer p)∧at_≤s.size∧(aG s).drop at_=rest∧bT w' R s at_ st∧bO w' w.heap.size x p∧w.grownBy w' (some R)
 |none=>cM R w e w'
def kU(t:Int)(c:Nat):Bool:=decide (c=49)||decide (c=48)||decide (97≤c∧(c:Int)-97<t)||decide (c=33)||decide (c=63)||decide (c=40)
def VO(t:Int)(st:ByteArray):Prop:=∀c:UInt8,st.data.toList.contains c=kU t c.toNat
def dI(t:Int)(k:Nat)(l:List Nat):Option (bD×List Nat):=
 match bM t k l with
 |some (x,m::l2)=>
  match bM t k l2 with
  |some (y,e::r)=>if e=41 then(zA m x y).map fun z=>(z,r) else none
  |_=>none
 |_=>none
theorem CH(t:Int)(k c:Nat)(l:List Nat)(h:kU t c=false):bM t (k+1) (c::l)=none:=by
 unfold kU at h
 simp only[Bool.or_eq_false_iff,decide_eq_false_iff_not] at h
 unfold bM
 rw[if_neg h.1.1.1.1.1,if_neg h.1.1.1.1.2,if_neg h.1.1.1.2,if_neg h.1.1.2,if_neg h.1.2,if_neg h.2]
theorem tW(t:Int):∀n,bM t n []=none
 |0=>rfl
 |_+1=>rfl
theorem aW{s:ByteArray}{at_ m:Nat}{l:List Nat}(h:(aG s).drop at_=m::l):∃h:at_<s.size,s[at_].toNat=m∧(aG s).drop (at_+1)=l:=by
 have hlt:at_<s.size:=by
  rcases Nat.lt_or_ge at_ s.size with h2|h2
  ·exact h2
  ·rw[List.drop_eq_nil_of_le (by rw[bR];exact h2)] at h;cases h
 rw[mA hlt] at h
 injection h with h1 h2
 exact⟨hlt,h1,h2⟩
theorem eH{s:ByteArray}{at_:Nat}(h:(aG s).drop at_=[])(hle:at_≤s.size):at_=s.size:=by
 have:=List.drop_eq_nil_iff.1 h
 rw[bR] at this
 omega
theorem gA(c:UInt8):(ByteArray.mk #[38,124,62]).data.toList.contains c=(decide (c.toNat=38)||decide (c.toNat=124)||decide (c.toNat=62)):=by
 rw[Bool.eq_iff_iff]
 simp only[List.contains_iff_mem,Bool.or_eq_true,decide_eq_true_eq]
 have e:∀k:UInt8,c=k↔c.toNat=k.toNat:=fun k=>UInt8.toNat_inj.symm
 simp[e]
 omega
theorem oJ(c:UInt8):(ByteArray.mk #[41]).data.toList.contains c=decide (c.toNat=41):=by
 rw[Bool.eq_iff_iff]
 simp only[List.contains_iff_mem,decide_eq_true_eq]
 have e:∀k:UInt8,c=k↔c.toNat=k.toNat:=fun k=>UInt8.toNat_inj.symm
 simp[e]
theorem DH{m:Nat}{x y:bD}(h:(decide (m=38)||decide (m=124)||decide (m=62))=false):zA m x y=none:=by
 simp only[Bool.or_eq_false_iff,decide_eq_false_iff_not] at h
 unfold zA
 rw[if_neg h.1.1,if_neg h.1.2,if_neg h.2]
end Go.Proofs.YtfhjcacfchkdpaaGreatDoor
