/-
  What the proofs of this seat's statements share (TlkC, TlkO).
-/
import Derived.Deep.Cut
import Derived.Deep.CutRange
import Derived.Deep.CutBlock
import Derived.Lib.SlicesS
import Derived.Test.YtfhjcacfchkdpaaGreatDoorU20
set_option maxRecDepth 100000
set_option maxHeartbeats 32000000
namespace Go.Proofs.YtfhjcacfchkdpaaGreatDoor
open Go.RowKit
theorem aK.setBox{w:World}{base g i:Nat}{v u:Value}{xs:List ByteArray}{T:TypeId}{cs:List Value}(h:aK w base v xs)(hb:aD w g T cs)(hT:T≠9):aK (w.setCell ⟨g,i,none⟩ u) base v xs:=by
 refine h.kept (row:=some g) (gE (World.grownBy.refl w _) i u) ?_
 rcases h.2 with⟨rfl,_⟩|⟨k,cap,cur,rfl,_,hk,_⟩
 ·exact .inl rfl
 ·right
  intro e
  simp only[Value.ownBlock,Option.some.injEq] at e
  rw[e,show w.heap[g]? =_ from hb] at hk
  cases hk
  exact hT rfl
theorem aY.setBox{w:World}{base g i:Nat}{v u:Value}{vs:List (Int×Value)}{xs:List (St ByteArray)}{T:TypeId}{cs:List Value}(h:aY 30 w base v vs xs)(hb:aD w g T cs)(hT:T≠9)(hT2:T≠30):aY 30 (w.setCell ⟨g,i,none⟩ u) base v vs xs:=by
 refine⟨World.ownsRow.kept (row:=some g) h.row (gE (World.grownBy.refl w _) i u) ?_,h.sees.len,fun j x hx=>by obtain⟨y,h1,h2,h3⟩:=h.sees.at_ j x hx;exact⟨y,h1,h2.setBox hb hT,h3⟩⟩
 rcases h.row.2 with⟨rfl,_⟩|⟨k,cap,cur,rfl,_,hk,_⟩
 ·exact .inl rfl
 ·right
  intro e
  simp only[Value.ownBlock,Option.some.injEq] at e
  rw[e,show w.heap[g]? =_ from hb] at hk
  cases hk
  exact hT2 rfl
theorem aK.setBox4{w:World}{base g:Nat}{v:Value}{xs:List ByteArray}{T:TypeId}{cs:List Value}(h:aK w base v xs)(hb:aD w g T cs)(hT:T≠9)(a b c d:Value):aK ((((w.setCell ⟨g,0,none⟩ a).setCell ⟨g,1,none⟩ b).setCell ⟨g,2,none⟩ c).setCell ⟨g,3,none⟩ d) base v xs:=
 (((h.setBox hb hT).setBox (hb.set 0 a) hT).setBox ((hb.set 0 a).set 1 b) hT).setBox (((hb.set 0 a).set 1 b).set 2 c) hT
def UU(w:World)(t q:Int)(pv ov:Value)(g:Nat)(o:Value)(xs:List ByteArray)(ys:List (St ByteArray))(wx:World):Prop:=
 ∃(p:Value) (vs:List (Int×Value)),Hid (aD wx w.heap.size 33 [.int .i64 t,.int .i64 q,ov,pv])∧Hid (aD wx (w.heap.size+1) 33 [.int .i64 0,.int .i64 0,.slice none 0 0,.slice none 0 0])∧
  Hid (aD wx g 33 [.int .i64 t,.int .i64 q,o,p])∧Hid (aK wx w.heap.size o xs)∧Hid (aY 30 wx w.heap.size p vs ys)∧Hid (Below w.heap.size w wx)
theorem iP{w:World}{b base sz n:Nat}{T e:TypeId}{cs xs:List Value}{p:Value}(hb:aD w b T cs)(h:w.ownsRow base e sz p n xs)(hT:T≠e):∀k,p.ownBlock=some k→k≠b:=by
 intro k hk he
 rcases h.2 with⟨rfl,_⟩|⟨g,cap,cur,rfl,_,hg,_⟩
 ·cases hk
 ·simp only[Value.ownBlock,Option.some.injEq] at hk
  rw[hk,he,show w.heap[b]? =_ from hb] at hg
  cases hg
  exact hT rfl
theorem M7{w1 w2:World}{o:Obj}{b oo:Nat}{u:Value}{row:Option Nat}(h:w1.cell? ⟨b,oo,none⟩=some u)(hlt:b<w1.heap.size)(hg:(w1.alloc o).grownBy w2 row)(hne:∀k,row=some k→k≠b):w2.cell? ⟨b,oo,none⟩=some u:=by
 rw[World.cell?_of_block (w' :=w2) (hg.block b (by rw[World.size_alloc];omega) (fun e=>hne b e.symm rfl)),World.cell?_alloc_lt _ _ _ hlt]
 exact h
theorem fT{w:World}{g i b oo:Nat}{v:Value}(h:g≠b):(w.setCell ⟨g,i,none⟩ v).cell? ⟨b,oo,none⟩=w.cell? ⟨b,oo,none⟩:=World.cell?_setCell_far w ⟨g,i,none⟩ ⟨b,oo,none⟩ v h
theorem rT{w w1 w2:World}{t q:Int}{tv ov:Value}{g:Nat}{A1 Apq A2:Option Addr}{n1 c1 np cp c2 b o0:Nat}{xs:List ByteArray}{ys:List (St ByteArray)}{x:St ByteArray}{vs:List (Int×Value)}{v2:Value}{e0 e1:Value}
  (hX:aD w1 w.heap.size 33 [.int .i64 t,.int .i64 q,ov,tv]) (hZ:aD w1 (w.heap.size+1) 33 [.int .i64 0,.int .i64 0,.slice none 0 0,.slice none 0 0]) (hU:aD w1 g 33 [.int .i64 t,.int .i64 q,.slice A1 n1 c1,.slice Apq np cp])
  (hO:aK w1 w.heap.size (.slice A1 n1 c1) xs) (hP:aY 30 w1 w.heap.size (.slice Apq np cp) vs ys) (hB:Below w.heap.size w w1) (hgw:w.heap.size≤g) (hg0:g≠w.heap.size) (hg1:g≠w.heap.size+1) (hbw:b<w.heap.size)
  (he0:w1.cell? ⟨b,o0,none⟩=some e0) (he1:w1.cell? ⟨b,o0+1,none⟩=some e1)
  (hx2:aY 30 w2 w.heap.size v2 (vs++[(x.known,.slice A2 x.op.length c2)]) (ys++[x])) (hg2:(w1.alloc (.cells #[.int .i64 x.known,.slice A2 x.op.length c2] 30)).grownBy w2 (Value.slice Apq np cp).ownBlock):
  ∃A3 n3 c3,v2= .slice A3 n3 c3∧(w2.cell? ⟨w.heap.size,3,none⟩=some tv∧w2.cell? ⟨b,o0,none⟩=some e0∧w2.cell? ⟨b,o0+1,none⟩=some e1)∧w2.cell? ⟨g,3,none⟩=some (.slice Apq np cp)∧w2.frozen? ⟨g,3,none⟩=false∧
   ((w2.setCell ⟨g,3,none⟩ (.slice A3 n3 c3)).cell? ⟨w.heap.size,3,none⟩=some tv∧(w2.setCell ⟨g,3,none⟩ (.slice A3 n3 c3)).cell? ⟨b,o0,none⟩=some e0∧(w2.setCell ⟨g,3,none⟩ (.slice A3 n3 c3)).cell? ⟨b,o0+1,none⟩=some e1)∧
   UU w t q tv ov g (.slice A1 n1 c1) xs (ys++[x]) (w2.setCell ⟨g,3,none⟩ (.slice A3 n3 c3)):=by
 obtain⟨A3,c3,rfl,_,_,_,_⟩:=hx2.form
 have hsz1:w.heap.size≤w1.heap.size:=hB.size
 have hapT:∀(bb:Nat) (cs:List Value),aD w1 bb 33 cs→∀kk,(Value.slice Apq np cp).ownBlock=some kk→kk≠bb:=fun bb cs hbx kk he=>iP hbx hP.row (by decide) kk he
 have HX2:=(hX.alloc (.cells #[.int .i64 x.known,.slice A2 x.op.length c2] 30)).grownO hg2 (hapT _ _ hX)
 have HZ2:=(hZ.alloc (.cells #[.int .i64 x.known,.slice A2 x.op.length c2] 30)).grownO hg2 (hapT _ _ hZ)
 have HU2:=(hU.alloc (.cells #[.int .i64 x.known,.slice A2 x.op.length c2] 30)).grownO hg2 (hapT _ _ hU)
 have HOO2:=(hO.below ((Below.refl _ _).alloc (Nat.le_refl _) (.cells #[.int .i64 x.known,.slice A2 x.op.length c2] 30))).kept hg2 (eC hO hP.row (by decide))
 have HB2:=(hB.alloc hsz1 (.cells #[.int .i64 x.known,.slice A2 x.op.length c2] 30)).grown hg2 (by rw[World.size_alloc];omega) (fun kk he=>(hP.lt he).1)
 have hfar:∀(oo:Nat) (u:Value),w1.cell? ⟨b,oo,none⟩=some u→w2.cell? ⟨b,oo,none⟩=some u:=fun oo u hu=>M7 hu (by omega) hg2 (fun kk he=>by have:=(hP.lt he).1;omega)
 have HX3:=HX2.other (a:=g) (i:=3) hg0 (.slice A3 (ys++[x]).length c3)
 refine⟨A3,_,c3,rfl,⟨HX2.cell rfl,hfar _ _ he0,hfar _ _ he1⟩,HU2.cell rfl,HU2.frozen 3,⟨HX3.cell rfl,(fT (show g≠b by omega)).trans (hfar _ _ he0),(fT (show g≠b by omega)).trans (hfar _ _ he1)⟩,?_⟩
 exact⟨_,_,HX3,HZ2.other hg1 _,HU2.set 3 _,HOO2.setBox HU2 (by decide),hx2.setBox HU2 (by decide) (by decide),HB2.setCell (p:=⟨g,3,none⟩) hgw _⟩
def xR(w:World)(t q:Int)(A:Option Addr)(n c:Nat)(B:Option Addr)(m d:Nat)(xs:List ByteArray)(s3:Value)(wx:World):Prop:=
 ∃(g:Nat) (A1:Option Addr) (c1:Nat),s3= .pointer (some ⟨g,0,none⟩)∧w.heap.size≤g∧g≠w.heap.size∧g≠w.heap.size+1∧Hid (aD wx w.heap.size 33 [.int .i64 t,.int .i64 q,.slice A n c,.slice B m d])∧Hid (aD wx (w.heap.size+1) 33 [.int .i64 0,.int .i64 0,.slice none 0 0,.slice none 0 0])∧
  Hid (aD wx g 33 [.int .i64 t,.int .i64 q,.slice A1 n c1,.slice none 0 0])∧Hid (aK wx w.heap.size (.slice A1 n c1) xs)∧Hid (Below w.heap.size w wx)
theorem aY.setBox4{w:World}{base g:Nat}{v:Value}{vs:List (Int×Value)}{xs:List (St ByteArray)}{T:TypeId}{cs:List Value}(h:aY 30 w base v vs xs)(hb:aD w g T cs)(hT:T≠9)(hT2:T≠30)(a b c d:Value):aY 30 ((((w.setCell ⟨g,0,none⟩ a).setCell ⟨g,1,none⟩ b).setCell ⟨g,2,none⟩ c).setCell ⟨g,3,none⟩ d) base v vs xs:=
 (((h.setBox hb hT hT2).setBox (hb.set 0 a) hT hT2).setBox ((hb.set 0 a).set 1 b) hT hT2).setBox (((hb.set 0 a).set 1 b).set 2 c) hT hT2
theorem aK.lit0(w:World)(base:Nat)(hb:base≤w.heap.size):aK (w.alloc (.cells #[] 9)) base (.slice (some ⟨w.heap.size,0,none⟩) 0 0) []:=aK.lit w base [] hb (by simp[maxLen])
theorem V2(T:aL)(A B:Option Addr)(n c m d:Nat)(w:World)(hT:bN w T A n c B m d)(hs:cD T):
  Calls Tryz.prog 60 #[.agg #[.int .i64 T.things,.int .i64 T.now.known,.slice A n c,.slice B m d]] w fun e w' =>∃o p vs,e= .returned (.agg #[.int .i64 T.things,.int .i64 T.now.known,o,p])∧aK w' w.heap.size o T.now.op∧aY 30 w' w.heap.size p vs T.past∧Below w.heap.size w w' :=by
 obtain⟨HX0,HZ0,HB0⟩:Hid (aD ((w.alloc (.cells #[.int .i64 T.things,.int .i64 T.now.known,.slice A n c,.slice B m d] 33)).alloc (.cells #[.int .i64 0,.int .i64 0,.slice none 0 0,.slice none 0 0] 33)) w.heap.size 33 [.int .i64 T.things,.int .i64 T.now.known,.slice A n c,.slice B m d])∧
   Hid (aD ((w.alloc (.cells #[.int .i64 T.things,.int .i64 T.now.known,.slice A n c,.slice B m d] 33)).alloc (.cells #[.int .i64 0,.int .i64 0,.slice none 0 0,.slice none 0 0] 33)) (w.heap.size+1) 33 [.int .i64 0,.int .i64 0,.slice none 0 0,.slice none 0 0])∧
   Hid (Below w.heap.size w ((w.alloc (.cells #[.int .i64 T.things,.int .i64 T.now.known,.slice A n c,.slice B m d] 33)).alloc (.cells #[.int .i64 0,.int .i64 0,.slice none 0 0,.slice none 0 0] 33))):=by
  refine⟨(aD.new w _ [.int .i64 T.things,.int .i64 T.now.known,.slice A n c,.slice B m d]).alloc _,?_,((Below.refl _ _).alloc (Nat.le_refl _) _).alloc (by rw[World.size_alloc];omega) _⟩
  have:=aD.new (w.alloc (.cells #[.int .i64 T.things,.int .i64 T.now.known,.slice A n c,.slice B m d] 33)) 33 [.int .i64 0,.int .i64 0,.slice none 0 0,.slice none 0 0]
  rw[World.size_alloc] at this
  exact this
 have HT:=zH hT
 have HS:=zH hs
 obtain rfl:=hT.pn
 obtain rfl:=hT.hn
 have hml:T.past.length≤1048576:=hs.past
 have hnl:T.now.op.length≤1048576:=hs.op
 obtain⟨t,HTT⟩:∃t,Hid (T.things=t):=⟨_,rfl⟩
 obtain⟨q,HQQ⟩:∃q,Hid (T.now.known=q):=⟨_,rfl⟩
 rw[HTT.out,HQQ.out] at HX0 HZ0 HB0⊢
 clear hT hs
 go_enter Tryz.func60,Tryz.ntmps60
 go_wp2_with fail
 obtain⟨W0,hW0⟩:∃W,(w.alloc (.cells #[.int .i64 t,.int .i64 q,.slice A T.now.op.length c,.slice B T.past.length d] 33)).alloc (.cells #[.int .i64 0,.int .i64 0,.slice none 0 0,.slice none 0 0] 33)=W:=⟨_,rfl⟩
 rw[hW0] at HX0 HZ0 HB0⊢
 clear hW0
 have hc0:=HX0.out.cell (i:=0) (v:= .int .i64 t) rfl
 have hc1:=HX0.out.cell (i:=1) (v:= .int .i64 q) rfl
 have hc2:=HX0.out.cell (i:=2) (v:= .slice A T.now.op.length c) rfl
 have hsz0:w.heap.size≤W0.heap.size:=HB0.out.size
 have hmc:=HT.out.hc
 have hl0:([]:List ByteArray).length+T.now.op.length≤4194304:=by simp;omega
 have HAW0:=zH (HT.out.hA.below HB0.out)
 have HW0:Hid (W0.drew.heap.size=W0.heap.size):=rfl
 have HXF:Hid (∀(W w1:World) (k:Nat) (O2:Obj),Below W0.heap.size W0 W→W.grownBy w1 (some k)→W0.heap.size≤k→aD w1 w.heap.size 33 [.int .i64 t,.int .i64 q,.slice A T.now.op.length c,.slice B T.past.length d]∧aD w1 (w.heap.size+1) 33 [.int .i64 0,.int .i64 0,.slice none 0 0,.slice none 0 0]∧Below w.heap.size w w1∧aD (w1.alloc O2) w.heap.size 33 [.int .i64 t,.int .i64 q,.slice A T.now.op.length c,.slice B T.past.length d]):=fun W w1 k O2 hb hg hk=>by
  have h1:=HX0.out.lt
  have h2:=HZ0.out.lt
  have hx:=(HX0.out.below hb).grownO hg (fun j e=>by cases e;omega)
  exact⟨hx,(HZ0.out.below hb).grownO hg (fun j e=>by cases e;omega),(HB0.out.trans (hb.mono hsz0)).grown hg (Nat.le_trans hsz0 hb.size) fun j e=>by cases e;omega,hx.alloc _⟩
 have HZA:Hid (Below W0.heap.size W0 (W0.drew.alloc (.cells #[] 9))):=(aE (Below.refl _ _) 1).alloc (Nat.le_refl _) _
 have HZB:Hid (Below W0.heap.size W0 ((W0.drew.alloc (.cells #[] 9)).alloc (.cells #[.int .i64 0,.int .i64 0,.slice none 0 0,.slice none 0 0] 33))):=HZA.out.alloc HZA.out.size _
 have HZC:Hid (Below W0.heap.size W0 ((W0.drew.alloc (.cells #[.int .i64 0,.int .i64 0,.slice none 0 0,.slice none 0 0] 33)).alloc (.cells #[] 9))):=((aE (Below.refl _ _) 1).alloc (Nat.le_refl _) _).alloc (by rw[World.size_alloc];exact Nat.le_succ _) _
 have HOA:Hid (aK (W0.drew.alloc (.cells #[] 9)) w.heap.size (.slice (some ⟨W0.heap.size,0,none⟩) 0 0) []):=aK.lit0 W0.drew _ hsz0
 have HOB:Hid (aK ((W0.drew.alloc (.cells #[] 9)).alloc (.cells #[.int .i64 0,.int .i64 0,.slice none 0 0,.slice none 0 0] 33)) w.heap.size (.slice (some ⟨W0.heap.size,0,none⟩) 0 0) []):=HOA.out.below ((Below.refl _ _).alloc (Nat.le_refl _) _)
 have HOC:Hid (aK ((W0.drew.alloc (.cells #[.int .i64 0,.int .i64 0,.slice none 0 0,.slice none 0 0] 33)).alloc (.cells #[] 9)) w.heap.size (.slice (some ⟨W0.heap.size+1,0,none⟩) 0 0) []):=by
  have:=aK.lit0 (W0.drew.alloc (.cells #[.int .i64 0,.int .i64 0,.slice none 0 0,.slice none 0 0] 33)) w.heap.size (by rw[World.size_alloc];exact Nat.le_succ_of_le hsz0)
  rw[World.size_alloc] at this
  exact this
 have HXB:Hid (aD ((W0.drew.alloc (.cells #[] 9)).alloc (.cells #[.int .i64 0,.int .i64 0,.slice none 0 0,.slice none 0 0] 33)) (W0.heap.size+1) 33 [.int .i64 0,.int .i64 0,.slice none 0 0,.slice none 0 0]):=by
  have:=aD.new (W0.drew.alloc (.cells #[] 9)) 33 [.int .i64 0,.int .i64 0,.slice none 0 0,.slice none 0 0]
  rw[World.size_alloc] at this
  exact this
 have HXC:Hid (aD ((W0.drew.alloc (.cells #[.int .i64 0,.int .i64 0,.slice none 0 0,.slice none 0 0] 33)).alloc (.cells #[] 9)) W0.heap.size 33 [.int .i64 0,.int .i64 0,.slice none 0 0,.slice none 0 0]):=(aD.new W0.drew 33 [.int .i64 0,.int .i64 0,.slice none 0 0,.slice none 0 0]).alloc _
 have hsA:w.heap.size≤(W0.drew.alloc (.cells #[] 9)).heap.size:=Nat.le_trans hsz0 HZA.out.size
 have hsB:w.heap.size≤((W0.drew.alloc (.cells #[] 9)).alloc (.cells #[.int .i64 0,.int .i64 0,.slice none 0 0,.slice none 0 0] 33)).heap.size:=Nat.le_trans hsz0 HZB.out.size
 have hsC:w.heap.size≤((W0.drew.alloc (.cells #[.int .i64 0,.int .i64 0,.slice none 0 0,.slice none 0 0] 33)).alloc (.cells #[] 9)).heap.size:=Nat.le_trans hsz0 HZC.out.size
 have HAA:=zH (HAW0.out.below HZA.out)
 have HAB:=zH (HAW0.out.below HZB.out)
 have HAC:=zH (HAW0.out.below HZC.out)
 have hx0lt:=HX0.out.lt
 have hz0lt:=HZ0.out.lt
 go_cut [3] from 5 to 16 (fun s3 wx=>xR w t q A T.now.op.length c B T.past.length d T.now.op s3 wx)
 case first=>
  go_region_held3 (fun w' =>w'.cell? ⟨w.heap.size,0,none⟩=some (.int .i64 t)∧w'.cell? ⟨w.heap.size,1,none⟩=some (.int .i64 q)∧w'.cell? ⟨w.heap.size,2,none⟩=some (.slice A T.now.op.length c))
   (first|go_keep|exact⟨hc0,hc1,hc2⟩|exact HK1.out|exact HK2.out)
   (first
    |(refine d0 rfl _ _ rfl w.heap.size (.slice (some ⟨W0.heap.size,0,none⟩) 0 0) [] T.now.op rfl HOA.out A T.now.op.length c rfl rfl hmc HAA.out hl0 hsA ?_;intro v1 w1 ho1 hg1;obtain⟨A1,c1,rfl,_,_,_,_⟩:=ho1.form;obtain⟨hx1,hz1,hb1,hx2⟩:=HXF.out _ w1 W0.heap.size (.cells #[.int .i64 t,.int .i64 q,.slice A1 T.now.op.length c1,.slice none 0 0] 33) HZA.out hg1 (Nat.le_refl _);have HZ1:=zH hz1;have HB1:=zH hb1;have HX2:=zH hx2;have HK1:=zH (And.intro (hx1.cell (i:=0) (v:= .int .i64 t) rfl) (And.intro (hx1.cell (i:=1) (v:= .int .i64 q) rfl) (hx1.cell (i:=2) (v:= .slice A T.now.op.length c) rfl)));have HK2:=zH (And.intro (hx2.cell (i:=0) (v:= .int .i64 t) rfl) (And.intro (hx2.cell (i:=1) (v:= .int .i64 q) rfl) (hx2.cell (i:=2) (v:= .slice A T.now.op.length c) rfl)));have HFIN:Hid (xR w t q A T.now.op.length c B T.past.length d T.now.op (.pointer (some ⟨w1.heap.size,0,none⟩)) (w1.alloc (.cells #[.int .i64 t,.int .i64 q,.slice A1 T.now.op.length c1,.slice none 0 0] 33))):=⟨w1.heap.size,A1,c1,rfl,hb1.size,(by have:=hz1.lt;omega),(by have:=hz1.lt;omega),HX2,hz1.alloc _,aD.new w1 _ [.int .i64 t,.int .i64 q,.slice A1 T.now.op.length c1,.slice none 0 0],ho1.below ((Below.refl _ _).alloc (Nat.le_refl _) _),hb1.alloc hb1.size _⟩;clear ho1 hg1 hx1 hz1 hb1 hx2)
    |(refine d0 rfl _ _ rfl w.heap.size (.slice (some ⟨W0.heap.size,0,none⟩) 0 0) [] T.now.op rfl HOB.out A T.now.op.length c rfl rfl hmc HAB.out hl0 hsB ?_;intro v1 w1 ho1 hg1;obtain⟨A1,c1,rfl,_,_,_,_⟩:=ho1.form;obtain⟨hx1,hz1,hb1,_⟩:=HXF.out _ w1 W0.heap.size (.cells #[] 0) HZB.out hg1 (Nat.le_refl _);have ho2:=HXB.out.grownO hg1 (fun k e=>by simp only[Value.ownBlock,Option.some.injEq] at e;omega);obtain⟨⟨ha0,ha1,ha2,ha3,ha4,ha5,ha6,ha7⟩,⟨hb2,hb3⟩,⟨hb4,hb5⟩,⟨hb6,hb7⟩,HOUT⟩:=ho2.store4 (.int .i64 t) (.int .i64 q) (.slice A1 T.now.op.length c1) (.slice none 0 0);have hx2:=hx1.other4 (g:=W0.heap.size+1) (by have:=HX0.out.lt;omega) (.int .i64 t) (.int .i64 q) (.slice A1 T.now.op.length c1) (.slice none 0 0);have HZ1:=zH hz1;have HB1:=zH hb1;have HX2:=zH hx2;have HK1:=zH (And.intro (hx1.cell (i:=0) (v:= .int .i64 t) rfl) (And.intro (hx1.cell (i:=1) (v:= .int .i64 q) rfl) (hx1.cell (i:=2) (v:= .slice A T.now.op.length c) rfl)));have HK2:=zH (And.intro (hx2.cell (i:=0) (v:= .int .i64 t) rfl) (And.intro (hx2.cell (i:=1) (v:= .int .i64 q) rfl) (hx2.cell (i:=2) (v:= .slice A T.now.op.length c) rfl)));have HFIN:Hid (xR w t q A T.now.op.length c B T.past.length d T.now.op (.pointer (some ⟨W0.heap.size+1,0,none⟩)) ((((w1.setCell ⟨W0.heap.size+1,0,none⟩ (.int .i64 t)).setCell ⟨W0.heap.size+1,1,none⟩ (.int .i64 q)).setCell ⟨W0.heap.size+1,2,none⟩ (.slice A1 T.now.op.length c1)).setCell ⟨W0.heap.size+1,3,none⟩ (.slice none 0 0))):=⟨W0.heap.size+1,A1,c1,rfl,(by omega),(by omega),(by omega),HX2,hz1.other4 (by omega) _ _ _ _,HOUT,ho1.setBox4 ho2 (by decide) _ _ _ _,bG hb1 (by omega) _ _ _ _⟩;clear ho1 hg1 hx1 hz1 hb1 hx2 ho2)
    |(refine d0 rfl _ _ rfl w.heap.size (.slice (some ⟨W0.heap.size+1,0,none⟩) 0 0) [] T.now.op rfl HOC.out A T.now.op.length c rfl rfl hmc HAC.out hl0 hsC ?_;intro v1 w1 ho1 hg1;obtain⟨A1,c1,rfl,_,_,_,_⟩:=ho1.form;obtain⟨hx1,hz1,hb1,_⟩:=HXF.out _ w1 (W0.heap.size+1) (.cells #[] 0) HZC.out hg1 (Nat.le_succ _);have ho2:=HXC.out.grownO hg1 (fun k e=>by simp only[Value.ownBlock,Option.some.injEq] at e;omega);obtain⟨⟨ha0,ha1,ha2,ha3,ha4,ha5,ha6,ha7⟩,⟨hb2,hb3⟩,⟨hb4,hb5⟩,⟨hb6,hb7⟩,HOUT⟩:=ho2.store4 (.int .i64 t) (.int .i64 q) (.slice A1 T.now.op.length c1) (.slice none 0 0);have hx2:=hx1.other4 (g:=W0.heap.size) (by have:=HX0.out.lt;omega) (.int .i64 t) (.int .i64 q) (.slice A1 T.now.op.length c1) (.slice none 0 0);have HZ1:=zH hz1;have HB1:=zH hb1;have HX2:=zH hx2;have HK1:=zH (And.intro (hx1.cell (i:=0) (v:= .int .i64 t) rfl) (And.intro (hx1.cell (i:=1) (v:= .int .i64 q) rfl) (hx1.cell (i:=2) (v:= .slice A T.now.op.length c) rfl)));have HK2:=zH (And.intro (hx2.cell (i:=0) (v:= .int .i64 t) rfl) (And.intro (hx2.cell (i:=1) (v:= .int .i64 q) rfl) (hx2.cell (i:=2) (v:= .slice A T.now.op.length c) rfl)));have HFIN:Hid (xR w t q A T.now.op.length c B T.past.length d T.now.op (.pointer (some ⟨W0.heap.size,0,none⟩)) ((((w1.setCell ⟨W0.heap.size,0,none⟩ (.int .i64 t)).setCell ⟨W0.heap.size,1,none⟩ (.int .i64 q)).setCell ⟨W0.heap.size,2,none⟩ (.slice A1 T.now.op.length c1)).setCell ⟨W0.heap.size,3,none⟩ (.slice none 0 0))):=⟨W0.heap.size,A1,c1,rfl,(by omega),(by omega),(by omega),HX2,hz1.other4 (by omega) _ _ _ _,HOUT,ho1.setBox4 ho2 (by decide) _ _ _ _,bG hb1 (by omega) _ _ _ _⟩;clear ho1 hg1 hx1 hz1 hb1 hx2 ho2))
  all_goals
   go_wp2_with fail
   go_meet
   exact HFIN.out
 case rest=>
  obtain⟨g,A1,c1,rfl,hgw,hg0,hg1,HX,HZ,HU,HO,HB⟩:=hcut
  clear HX0 HZ0 HB0 hc0 hc1 hc2 HOA HOB HOC HXB HXC HAA HAB HAC HZA HZB HZC HXF HAW0 HW0 hsA hsB hsC hsz0 hx0lt hz0lt hl0 hmc
  go_wp2_with fail
  go_loopw [4] (fun i wr=>∃(j:Nat) (p:Value) (vs:List (Int×Value)),j≤T.past.length∧i= .int .i64 j∧Hid (aD wr w.heap.size 33 [.int .i64 t,.int .i64 q,.slice A T.now.op.length c,.slice B T.past.length d])∧Hid (aD wr (w.heap.size+1) 33 [.int .i64 0,.int .i64 0,.slice none 0 0,.slice none 0 0])∧
   Hid (aD wr g 33 [.int .i64 t,.int .i64 q,.slice A1 T.now.op.length c1,p])∧Hid (aK wr w.heap.size (.slice A1 T.now.op.length c1) T.now.op)∧Hid (aY 30 wr w.heap.size p vs (T.past.take j))∧Hid (Below w.heap.size w wr)) (fun i _=>T.past.length-(Go.RowKit.intOf i).toNat)
  case atStart=>exact⟨0,_,[],Nat.zero_le _,rfl,HX,HZ,HU,HO,aY.nil _ _ _,HB⟩
  case round=>
   obtain⟨j,p,vs,hj,rfl,HX,HZ,HU,HO,HP,HB⟩:=hrel
   have hc3:=HX.out.cell (i:=3) (v:= .slice B T.past.length d) rfl
   by_cases hlt:j<T.past.length
   ·obtain⟨b,off,Ai,ci,x,rfl,he0,he1,hle,hmi,hx,hAi,hbl⟩:=(HT.out.hB.below HB.out).elem hlt
    obtain⟨hxl,hxs⟩:=HS.out.ops x (List.mem_of_getElem? hx.out)
    obtain⟨Apq,cp,hpe,_,_,_,_⟩:=HP.out.form
    obtain⟨np,hnp⟩:∃np,(T.past.take j).length=np:=⟨_,rfl⟩
    rw[hnp] at hpe
    subst hpe
    have hu3:=HU.out.cell (i:=3) (v:= .slice Apq np cp) rfl
    have hnl2:(T.past.take j).length≤1048576:=by rw[List.length_take];omega
    have HTK:Hid (T.past.take (j+1)=T.past.take j++[x]):=by
     unfold Hid
     rw[List.take_succ_eq_append_getElem (by omega),(List.getElem?_eq_some_iff.1 hx.out).2]
    have hbw:b<w.heap.size:=by
     obtain⟨b0,off0,_,_,_,hA0,_,_,_,_,_,_,hlt0⟩:=HT.out.hB.elem hlt
     cases hA0
     exact hlt0.out
    have hszr:w.heap.size≤wr.heap.size:=HB.out.size
    have HO0:Hid (aK (wr.drew.alloc (.cells #[] 9)) w.heap.size (.slice (some ⟨wr.heap.size,0,none⟩) 0 0) []):=aK.lit0 wr.drew _ hszr
    have HAZ:Hid (a7 (wr.drew.alloc (.cells #[] 9)) Ai x.op):=(hAi.out.drewN 1).alloc _
    have hszA:w.heap.size≤(wr.drew.alloc (.cells #[] 9)).heap.size:=by rw[World.size_alloc];exact Nat.le_succ_of_le hszr
    have hl0:([]:List ByteArray).length+x.op.length≤4194304:=by simp;omega
    have huA:(wr.drew.alloc (.cells #[] 9)).cell? ⟨g,3,none⟩=some (.slice Apq np cp):=(aD.alloc (W:=wr.drew) (aD.drew HU.out) _).cell rfl
    have huB:(wr.alloc (.cells #[] 9)).cell? ⟨g,3,none⟩=some (.slice Apq np cp):=(aD.alloc (W:=wr) HU.out _).cell rfl
    have HF1:Hid (∀(w1:World) (A2:Option Addr) (c2:Nat),aK w1 w.heap.size (.slice A2 x.op.length c2) x.op→(wr.drew.alloc (.cells #[] 9)).grownBy w1 (Value.slice (some ⟨wr.heap.size,0,none⟩) 0 0).ownBlock→
      Below wr.heap.size wr w1):=fun w1 A2 c2 _ hg=>by
     have h0:Below wr.heap.size wr (wr.drew.alloc (.cells #[] 9)):=(aE (Below.refl wr.heap.size wr) 1).alloc (Nat.le_refl _) _
     exact h0.grown hg h0.size fun e he=>by simp only[Value.ownBlock,Option.some.injEq] at he;omega
    go_wp2_with fail
    refine wp_region_held_drew (S:=(fun w' =>w'.cell? ⟨w.heap.size,3,none⟩=some (.slice (some ⟨b,off,none⟩) T.past.length d)∧w'.cell? ⟨b,off+j*2,none⟩=some (.int .i64 x.known)∧w'.cell? ⟨b,off+j*2+1,none⟩=some (.slice Ai x.op.length ci))) (by kernel_rfl) ?_ (fun hHeld=> ?_)
    ·exact⟨hc3,he0,he1⟩
    refine zT 0 (h:=?_)
    try simp only[Act.put,List.setIfInBounds_toArray]
    refine zT 2 (h:=?_)
    try simp only[Act.put]
    refine zT 3 (h:=?_)
    try simp only[Act.put]
    refine zT 4 (h:=?_)
    try simp only[Act.put]
    refine zT 5 (h:=?_)
    try simp only[Act.put]
    refine zT 6 (h:=?_)
    try simp only[Act.put]
    refine zT 7 (h:=?_)
    try simp only[Act.put]
    refine zT 9 (h:=?_)
    try simp only[Act.put]
    refine zT 10 (h:=?_)
    try simp only[Act.put]
    refine zT 11 (h:=?_)
    try simp only[Act.put]
    refine zT 12 (h:=?_)
    try simp only[Act.put]
    refine zT 13 (h:=?_)
    try simp only[Act.put]
    refine zT 14 (h:=?_)
    try simp only[Act.put]
    refine wpAnyH_ready (rs:=[1,8]) (by kernel_rfl) (by simp) ?_
    refine AllReadyH.cons rfl (fun K hK=> ?_) ?_
    ·go_simp
     refine hK.out _ _ ?_ (fun hHeld=> ?_)
     ·(first|exact HK3.out|exact HK2.out|exact HK1.out|exact⟨hc3,he0,he1⟩|go_keep)
     clear hK K
     try simp only[Act.put,zS]
     refine wpAnyH_ready (rs:=[8]) (by kernel_rfl) (by simp) ?_
     refine AllReadyH.cons rfl (fun K hK=> ?_) ?_
     ·go_simp
      refine hK.out _ _ ?_ (fun hHeld=> ?_)
      ·(first|exact HK3.out|exact HK2.out|exact HK1.out|exact⟨hc3,he0,he1⟩|go_keep)
      clear hK K
      try simp only[Act.put,zS]
      refine wpAnyH_ready (rs:=[15]) (by kernel_rfl) (by simp) ?_
      refine AllReadyH.cons rfl (fun K hK=> ?_) ?_
      ·refine d0 rfl _ _ rfl w.heap.size (.slice (some ⟨wr.heap.size,0,none⟩) 0 0) [] x.op rfl HO0.out Ai x.op.length ci rfl rfl hle HAZ.out hl0 hszA ?_;intro v1 w1 ho1 hg1;obtain⟨A2,c2,rfl,_,_,_,_⟩:=ho1.form;have hb1:=HF1.out w1 A2 c2 ho1 hg1;have HX1:=zH (HX.out.below hb1);have HZ1:=zH (HZ.out.below hb1);have HU1:=zH (HU.out.below hb1);have HOO1:=zH (HO.out.below hb1);have HP1:=zH (HP.out.below hb1);have HB1:=zH (aA HB.out hb1);have hu1:=HU1.out.cell (i:=3) (v:= .slice Apq np cp) rfl;have hu1L:(w1.alloc (.cells #[.int .i64 x.known,.slice A2 x.op.length c2] 30)).cell? ⟨g,3,none⟩=some (.slice Apq np cp):=(HU1.out.alloc _).cell rfl;have HK1:=zH (And.intro (HX1.out.cell (i:=3) (v:= .slice (some ⟨b,off,none⟩) T.past.length d) rfl) (And.intro (((Below.cell hb1 (p:=⟨b,off+j*2,none⟩)) hbl.out).trans he0) (((Below.cell hb1 (p:=⟨b,off+j*2+1,none⟩)) hbl.out).trans he1)));have HO1:=zH ho1;have hsz1:w.heap.size≤w1.heap.size:=HB1.out.size;clear ho1 hg1 hb1
       refine hK.out _ _ ?_ (fun hHeld=> ?_)
       ·(first|exact HK3.out|exact HK2.out|exact HK1.out|exact⟨hc3,he0,he1⟩|go_keep)
       clear hK K
       try simp only[Act.put,List.setIfInBounds_toArray]
       refine zT 16 (h:=?_)
       try simp only[Act.put]
       refine wpAnyH_ready (rs:=[17]) (by kernel_rfl) (by simp) ?_
       refine AllReadyH.cons rfl (fun K hK=> ?_) ?_
       ·go_simp
        refine hK.out _ _ ?_ (fun hHeld=> ?_)
        ·(first|exact HK3.out|exact HK2.out|exact HK1.out|exact⟨hc3,he0,he1⟩|go_keep)
        clear hK K
        try simp only[Act.put,zS]
        refine wpAnyH_ready (rs:=[18]) (by kernel_rfl) (by simp) ?_
        refine AllReadyH.cons rfl (fun K hK=> ?_) ?_
        ·refine mP rfl _ _ rfl w.heap.size (.slice Apq np cp) (.slice A2 x.op.length c2) vs (T.past.take j) x rfl HP1.out HO1.out rfl hnl2 hsz1 (eC HO1.out HP1.out.row (by decide)) ?_;intro v2 w2 hx2 hg2;obtain⟨A3,n3,c3,rfl,hk2,hu2,hf2,hk3,hfin⟩:=rT HX1.out HZ1.out HU1.out HOO1.out HP1.out HB1.out hgw hg0 hg1 hbw HK1.out.2.1 HK1.out.2.2 hx2 hg2;have HK2:=zH hk2;have HK3:=zH hk3;have HFIN:=zH hfin;clear hx2 hg2 hk2 hk3 hfin
         refine hK.out _ _ ?_ (fun hHeld=> ?_)
         ·(first|exact HK3.out|exact HK2.out|exact HK1.out|exact⟨hc3,he0,he1⟩|go_keep)
         clear hK K
         try simp only[Act.put,List.setIfInBounds_toArray]
         refine zT 19 (h:=?_)
         try simp only[Act.put]
         refine wpAnyH_ready (rs:=[20]) (by kernel_rfl) (by simp) ?_
         refine AllReadyH.cons rfl (fun K hK=> ?_) ?_
         ·go_simp
          refine hK.out _ _ ?_ (fun hHeld=> ?_)
          ·(first|exact HK3.out|exact HK2.out|exact HK1.out|exact⟨hc3,he0,he1⟩|go_keep)
          clear hK K
          try simp only[Act.put]
          refine wpAnyH_done (by kernel_rfl) ?_ _
          go_wp2_with fail
          obtain⟨p',vs',h1,h2,h3,h4,h5,h6⟩:=HFIN.out
          rw[←HTK.out] at h5
          go_roundw
          case rel=>exact⟨j+1,p',vs',by omega,by go_num,h1,h2,h3,h4,h5,h6⟩
          case measure=>simp[Go.RowKit.intOf];omega
         exact AllReadyH.nil
        exact AllReadyH.nil
       exact AllReadyH.nil
      exact AllReadyH.nil
     exact AllReadyH.nil
    refine AllReadyH.cons rfl (fun K hK=> ?_) ?_
    ·go_simp
     refine hK.out _ _ ?_ (fun hHeld=> ?_)
     ·(first|exact HK3.out|exact HK2.out|exact HK1.out|exact⟨hc3,he0,he1⟩|go_keep)
     clear hK K
     try simp only[Act.put,zS]
     refine wpAnyH_ready (rs:=[1,15]) (by kernel_rfl) (by simp) ?_
     refine AllReadyH.cons rfl (fun K hK=> ?_) ?_
     ·go_simp
      refine hK.out _ _ ?_ (fun hHeld=> ?_)
      ·(first|exact HK3.out|exact HK2.out|exact HK1.out|exact⟨hc3,he0,he1⟩|go_keep)
      clear hK K
      try simp only[Act.put,zS]
      refine wpAnyH_ready (rs:=[15]) (by kernel_rfl) (by simp) ?_
      refine AllReadyH.cons rfl (fun K hK=> ?_) ?_
      ·refine d0 rfl _ _ rfl w.heap.size (.slice (some ⟨wr.heap.size,0,none⟩) 0 0) [] x.op rfl HO0.out Ai x.op.length ci rfl rfl hle HAZ.out hl0 hszA ?_;intro v1 w1 ho1 hg1;obtain⟨A2,c2,rfl,_,_,_,_⟩:=ho1.form;have hb1:=HF1.out w1 A2 c2 ho1 hg1;have HX1:=zH (HX.out.below hb1);have HZ1:=zH (HZ.out.below hb1);have HU1:=zH (HU.out.below hb1);have HOO1:=zH (HO.out.below hb1);have HP1:=zH (HP.out.below hb1);have HB1:=zH (aA HB.out hb1);have hu1:=HU1.out.cell (i:=3) (v:= .slice Apq np cp) rfl;have hu1L:(w1.alloc (.cells #[.int .i64 x.known,.slice A2 x.op.length c2] 30)).cell? ⟨g,3,none⟩=some (.slice Apq np cp):=(HU1.out.alloc _).cell rfl;have HK1:=zH (And.intro (HX1.out.cell (i:=3) (v:= .slice (some ⟨b,off,none⟩) T.past.length d) rfl) (And.intro (((Below.cell hb1 (p:=⟨b,off+j*2,none⟩)) hbl.out).trans he0) (((Below.cell hb1 (p:=⟨b,off+j*2+1,none⟩)) hbl.out).trans he1)));have HO1:=zH ho1;have hsz1:w.heap.size≤w1.heap.size:=HB1.out.size;clear ho1 hg1 hb1
       refine hK.out _ _ ?_ (fun hHeld=> ?_)
       ·(first|exact HK3.out|exact HK2.out|exact HK1.out|exact⟨hc3,he0,he1⟩|go_keep)
       clear hK K
       try simp only[Act.put,List.setIfInBounds_toArray]
       refine zT 16 (h:=?_)
       try simp only[Act.put]
       refine wpAnyH_ready (rs:=[17]) (by kernel_rfl) (by simp) ?_
       refine AllReadyH.cons rfl (fun K hK=> ?_) ?_
       ·go_simp
        refine hK.out _ _ ?_ (fun hHeld=> ?_)
        ·(first|exact HK3.out|exact HK2.out|exact HK1.out|exact⟨hc3,he0,he1⟩|go_keep)
        clear hK K
        try simp only[Act.put,zS]
        refine wpAnyH_ready (rs:=[18]) (by kernel_rfl) (by simp) ?_
        refine AllReadyH.cons rfl (fun K hK=> ?_) ?_
        ·refine mP rfl _ _ rfl w.heap.size (.slice Apq np cp) (.slice A2 x.op.length c2) vs (T.past.take j) x rfl HP1.out HO1.out rfl hnl2 hsz1 (eC HO1.out HP1.out.row (by decide)) ?_;intro v2 w2 hx2 hg2;obtain⟨A3,n3,c3,rfl,hk2,hu2,hf2,hk3,hfin⟩:=rT HX1.out HZ1.out HU1.out HOO1.out HP1.out HB1.out hgw hg0 hg1 hbw HK1.out.2.1 HK1.out.2.2 hx2 hg2;have HK2:=zH hk2;have HK3:=zH hk3;have HFIN:=zH hfin;clear hx2 hg2 hk2 hk3 hfin
         refine hK.out _ _ ?_ (fun hHeld=> ?_)
         ·(first|exact HK3.out|exact HK2.out|exact HK1.out|exact⟨hc3,he0,he1⟩|go_keep)
         clear hK K
         try simp only[Act.put,List.setIfInBounds_toArray]
         refine zT 19 (h:=?_)
         try simp only[Act.put]
         refine wpAnyH_ready (rs:=[20]) (by kernel_rfl) (by simp) ?_
         refine AllReadyH.cons rfl (fun K hK=> ?_) ?_
         ·go_simp
          refine hK.out _ _ ?_ (fun hHeld=> ?_)
          ·(first|exact HK3.out|exact HK2.out|exact HK1.out|exact⟨hc3,he0,he1⟩|go_keep)
          clear hK K
          try simp only[Act.put]
          refine wpAnyH_done (by kernel_rfl) ?_ _
          go_wp2_with fail
          obtain⟨p',vs',h1,h2,h3,h4,h5,h6⟩:=HFIN.out
          rw[←HTK.out] at h5
          go_roundw
          case rel=>exact⟨j+1,p',vs',by omega,by go_num,h1,h2,h3,h4,h5,h6⟩
          case measure=>simp[Go.RowKit.intOf];omega
         exact AllReadyH.nil
        exact AllReadyH.nil
       exact AllReadyH.nil
      exact AllReadyH.nil
     refine AllReadyH.cons rfl (fun K hK=> ?_) ?_
     ·refine d0 rfl _ _ rfl w.heap.size (.slice (some ⟨wr.heap.size,0,none⟩) 0 0) [] x.op rfl HO0.out Ai x.op.length ci rfl rfl hle HAZ.out hl0 hszA ?_;intro v1 w1 ho1 hg1;obtain⟨A2,c2,rfl,_,_,_,_⟩:=ho1.form;have hb1:=HF1.out w1 A2 c2 ho1 hg1;have HX1:=zH (HX.out.below hb1);have HZ1:=zH (HZ.out.below hb1);have HU1:=zH (HU.out.below hb1);have HOO1:=zH (HO.out.below hb1);have HP1:=zH (HP.out.below hb1);have HB1:=zH (aA HB.out hb1);have hu1:=HU1.out.cell (i:=3) (v:= .slice Apq np cp) rfl;have hu1L:(w1.alloc (.cells #[.int .i64 x.known,.slice A2 x.op.length c2] 30)).cell? ⟨g,3,none⟩=some (.slice Apq np cp):=(HU1.out.alloc _).cell rfl;have HK1:=zH (And.intro (HX1.out.cell (i:=3) (v:= .slice (some ⟨b,off,none⟩) T.past.length d) rfl) (And.intro (((Below.cell hb1 (p:=⟨b,off+j*2,none⟩)) hbl.out).trans he0) (((Below.cell hb1 (p:=⟨b,off+j*2+1,none⟩)) hbl.out).trans he1)));have HO1:=zH ho1;have hsz1:w.heap.size≤w1.heap.size:=HB1.out.size;clear ho1 hg1 hb1
      refine hK.out _ _ ?_ (fun hHeld=> ?_)
      ·(first|exact HK3.out|exact HK2.out|exact HK1.out|exact⟨hc3,he0,he1⟩|go_keep)
      clear hK K
      try simp only[Act.put,List.setIfInBounds_toArray]
      refine zT 16 (h:=?_)
      try simp only[Act.put]
      refine wpAnyH_ready (rs:=[1,17]) (by kernel_rfl) (by simp) ?_
      refine AllReadyH.cons rfl (fun K hK=> ?_) ?_
      ·go_simp
       refine hK.out _ _ ?_ (fun hHeld=> ?_)
       ·(first|exact HK3.out|exact HK2.out|exact HK1.out|exact⟨hc3,he0,he1⟩|go_keep)
       clear hK K
       try simp only[Act.put,zS]
       refine wpAnyH_ready (rs:=[17]) (by kernel_rfl) (by simp) ?_
       refine AllReadyH.cons rfl (fun K hK=> ?_) ?_
       ·go_simp
        refine hK.out _ _ ?_ (fun hHeld=> ?_)
        ·(first|exact HK3.out|exact HK2.out|exact HK1.out|exact⟨hc3,he0,he1⟩|go_keep)
        clear hK K
        try simp only[Act.put,zS]
        refine wpAnyH_ready (rs:=[18]) (by kernel_rfl) (by simp) ?_
        refine AllReadyH.cons rfl (fun K hK=> ?_) ?_
        ·refine mP rfl _ _ rfl w.heap.size (.slice Apq np cp) (.slice A2 x.op.length c2) vs (T.past.take j) x rfl HP1.out HO1.out rfl hnl2 hsz1 (eC HO1.out HP1.out.row (by decide)) ?_;intro v2 w2 hx2 hg2;obtain⟨A3,n3,c3,rfl,hk2,hu2,hf2,hk3,hfin⟩:=rT HX1.out HZ1.out HU1.out HOO1.out HP1.out HB1.out hgw hg0 hg1 hbw HK1.out.2.1 HK1.out.2.2 hx2 hg2;have HK2:=zH hk2;have HK3:=zH hk3;have HFIN:=zH hfin;clear hx2 hg2 hk2 hk3 hfin
         refine hK.out _ _ ?_ (fun hHeld=> ?_)
         ·(first|exact HK3.out|exact HK2.out|exact HK1.out|exact⟨hc3,he0,he1⟩|go_keep)
         clear hK K
         try simp only[Act.put,List.setIfInBounds_toArray]
         refine zT 19 (h:=?_)
         try simp only[Act.put]
         refine wpAnyH_ready (rs:=[20]) (by kernel_rfl) (by simp) ?_
         refine AllReadyH.cons rfl (fun K hK=> ?_) ?_
         ·go_simp
          refine hK.out _ _ ?_ (fun hHeld=> ?_)
          ·(first|exact HK3.out|exact HK2.out|exact HK1.out|exact⟨hc3,he0,he1⟩|go_keep)
          clear hK K
          try simp only[Act.put]
          refine wpAnyH_done (by kernel_rfl) ?_ _
          go_wp2_with fail
          obtain⟨p',vs',h1,h2,h3,h4,h5,h6⟩:=HFIN.out
          rw[←HTK.out] at h5
          go_roundw
          case rel=>exact⟨j+1,p',vs',by omega,by go_num,h1,h2,h3,h4,h5,h6⟩
          case measure=>simp[Go.RowKit.intOf];omega
         exact AllReadyH.nil
        exact AllReadyH.nil
       exact AllReadyH.nil
      refine AllReadyH.cons rfl (fun K hK=> ?_) ?_
      ·go_simp
       refine hK.out _ _ ?_ (fun hHeld=> ?_)
       ·(first|exact HK3.out|exact HK2.out|exact HK1.out|exact⟨hc3,he0,he1⟩|go_keep)
       clear hK K
       try simp only[Act.put,zS]
       refine wpAnyH_ready (rs:=[1]) (by kernel_rfl) (by simp) ?_
       refine AllReadyH.cons rfl (fun K hK=> ?_) ?_
       ·go_simp
        refine hK.out _ _ ?_ (fun hHeld=> ?_)
        ·(first|exact HK3.out|exact HK2.out|exact HK1.out|exact⟨hc3,he0,he1⟩|go_keep)
        clear hK K
        try simp only[Act.put,zS]
        refine wpAnyH_ready (rs:=[18]) (by kernel_rfl) (by simp) ?_
        refine AllReadyH.cons rfl (fun K hK=> ?_) ?_
        ·refine mP rfl _ _ rfl w.heap.size (.slice Apq np cp) (.slice A2 x.op.length c2) vs (T.past.take j) x rfl HP1.out HO1.out rfl hnl2 hsz1 (eC HO1.out HP1.out.row (by decide)) ?_;intro v2 w2 hx2 hg2;obtain⟨A3,n3,c3,rfl,hk2,hu2,hf2,hk3,hfin⟩:=rT HX1.out HZ1.out HU1.out HOO1.out HP1.out HB1.out hgw hg0 hg1 hbw HK1.out.2.1 HK1.out.2.2 hx2 hg2;have HK2:=zH hk2;have HK3:=zH hk3;have HFIN:=zH hfin;clear hx2 hg2 hk2 hk3 hfin
         refine hK.out _ _ ?_ (fun hHeld=> ?_)
         ·(first|exact HK3.out|exact HK2.out|exact HK1.out|exact⟨hc3,he0,he1⟩|go_keep)
         clear hK K
         try simp only[Act.put,List.setIfInBounds_toArray]
         refine zT 19 (h:=?_)
         try simp only[Act.put]
         refine wpAnyH_ready (rs:=[20]) (by kernel_rfl) (by simp) ?_
         refine AllReadyH.cons rfl (fun K hK=> ?_) ?_
         ·go_simp
          refine hK.out _ _ ?_ (fun hHeld=> ?_)
          ·(first|exact HK3.out|exact HK2.out|exact HK1.out|exact⟨hc3,he0,he1⟩|go_keep)
          clear hK K
          try simp only[Act.put]
          refine wpAnyH_done (by kernel_rfl) ?_ _
          go_wp2_with fail
          obtain⟨p',vs',h1,h2,h3,h4,h5,h6⟩:=HFIN.out
          rw[←HTK.out] at h5
          go_roundw
          case rel=>exact⟨j+1,p',vs',by omega,by go_num,h1,h2,h3,h4,h5,h6⟩
          case measure=>simp[Go.RowKit.intOf];omega
         exact AllReadyH.nil
        exact AllReadyH.nil
       exact AllReadyH.nil
      exact AllReadyH.nil
     exact AllReadyH.nil
    exact AllReadyH.nil
   ·obtain rfl:j=T.past.length:=by omega
    rw[List.take_length] at HP
    obtain⟨Apq,cp,hpe,_,_,_,_⟩:=HP.out.form
    subst hpe
    have hu0:=HU.out.cell (i:=0) (v:= .int .i64 t) rfl
    have hu1:=HU.out.cell (i:=1) (v:= .int .i64 q) rfl
    have hu2:=HU.out.cell (i:=2) (v:= .slice A1 T.now.op.length c1) rfl
    have hu3:=HU.out.cell (i:=3) (v:= .slice Apq T.past.length cp) rfl
    obtain⟨⟨ha0,ha1,ha2,ha3,ha4,ha5,ha6,ha7⟩,⟨hb2,hb3⟩,⟨hb4,hb5⟩,⟨hb6,hb7⟩,HOUT⟩:=HZ.out.store4 (.int .i64 t) (.int .i64 q) (.slice A1 T.now.op.length c1) (.slice Apq T.past.length cp)
    have HB5:=zH (bG HB.out (show w.heap.size≤w.heap.size+1 by omega) (.int .i64 t) (.int .i64 q) (.slice A1 T.now.op.length c1) (.slice Apq T.past.length cp))
    have HO5:=zH (HO.out.setBox4 HZ.out (by decide) (.int .i64 t) (.int .i64 q) (.slice A1 T.now.op.length c1) (.slice Apq T.past.length cp))
    have HP5:=zH (HP.out.setBox4 HZ.out (by decide) (by decide) (.int .i64 t) (.int .i64 q) (.slice A1 T.now.op.length c1) (.slice Apq T.past.length cp))
    go_wp2_with fail
    refine bodyPost_ret_by (gV (b:=w.heap.size+1) rfl rfl HOUT) rfl ⟨.slice A1 T.now.op.length c1,.slice Apq T.past.length cp,vs,rfl,HO5.out,HP5.out,HB5.out⟩
theorem AK{w:World}{A:Option Addr}{xs:List ByteArray}(x:ByteArray)(n c:Nat)(hn:n=xs.length)(hl:n≤1048576)(hA:a7 w A xs):
  Calls Tryz.prog 106 #[.slice A n c,.string x] w fun e w' =>e= .returned (.bool (Lib.containsS xs x))∧w=w' :=by
 subst hn
 by_cases h0:xs.length=0
 ·obtain rfl:xs=[]:=List.eq_nil_of_length_eq_zero h0
  refine(Tryz.slices_Contains_string_empty A c x w).mono ?_
  rintro e w' ⟨rfl,rfl⟩
  exact⟨rfl,rfl⟩
 ·obtain⟨b,off,rfl,_,hc⟩:=hA (by omega)
  refine(Tryz.slices_Contains_string b off xs.length c xs x w (Nat.le_refl _) (by omega) hc).mono ?_
  rintro e w' ⟨rfl,rfl⟩
  refine⟨aM ?_,rfl⟩
  rw[List.take_length]
theorem tQ{t k:Int}(s:ByteArray)(w:World)(hk:aO t k=true)(hs:s.size≤9223372036854775807):
  Calls Tryz.prog 105 #[.int .i64 t,.int .i64 k,.string s] w fun e w' =>e= .returned (.tuple #[.bool (aH.isS t s&&aH.sett t k s),.bool (aH.isS t s)])∧Below w.heap.size w w' :=by
 have hlen:=qT t s
 have HK:=zH hk
 cases hS:aH.isS t s with
 |false=>
  have HII:Hid (fY t s=false):=hS
  obtain⟨l,HL⟩:∃l,Hid (gM t s=l):=⟨_,rfl⟩
  clear hS hk hlen
  go_enter Tryz.func105,Tryz.ntmps105
  go_wp2_with fail
  refine(sO HL HII _ hs).mono ?_
  rintro e w1 ⟨v,rfl,ho,hbel⟩
  have HB:=zH hbel
  clear ho hbel
  go_wp2_with fail
  go_ret2
  exact⟨rfl,HB.out⟩
 |true=>
  have HII:Hid (fY t s=true):=hS
  obtain⟨b,HSB⟩:∃b,Hid (cF t (gM t s) k=b):=⟨_,rfl⟩
  have HSE:Hid (aH.sett t k s=b):=by unfold Hid;rw[←HSB.out];exact(vV hS hk).symm
  obtain⟨l,HL⟩:∃l,Hid (gM t s=l):=⟨_,rfl⟩
  rw[HL.out] at hlen HSB
  clear hS hk
  go_enter Tryz.func105,Tryz.ntmps105
  go_wp2_with fail
  refine(sO HL HII _ hs).mono ?_
  rintro e w1 ⟨v,rfl,ho,hbel⟩
  obtain⟨A,c,rfl,_,_,_,_⟩:=ho.form
  have HR:=zH (aS.row ho (by omega))
  have HB:=zH hbel
  clear ho hbel
  go_wp2_with (go_at_call 118;refine(pX HSB A l.length c _ HR.out.hn HR.out.hl HR.out.hc HR.out.hm HR.out.hA).mono ?_;rintro e w2 ⟨rfl,n,rfl⟩)
  go_ret2
  exact⟨by rw[HSE.out]<;>rfl,aE HB.out _⟩
theorem PN{t k:Int}{xs:List ByteArray}(h:aO t k=false∨k=0∨4<xs.length):bC aH t ⟨k,xs⟩=false:=by
 cases hs:bC aH t ⟨k,xs⟩ with
 |false=>rfl
 |true=>
  obtain⟨h1,h2,h3,_,_⟩:=(cS aH).1 hs
  rcases h with h|h|h
  ·rw[h] at h1;cases h1
  ·exact absurd h h2
  ·exact absurd h3 (by show¬xs.length≤4;omega)
theorem UV{t k:Int}{xs:List ByteArray}{j:Nat}{x:ByteArray}(hx:Hid (xs[j]? =some x))(h:x∈xs.take j):bC aH t ⟨k,xs⟩=false:=by
 obtain⟨i,hi⟩:=List.mem_iff_getElem?.1 h
 have hlt:i<j:=by
  have:=(List.getElem?_eq_some_iff.1 hi).1
  rw[List.length_take] at this;omega
 rw[List.getElem?_take_of_lt hlt] at hi
 exact DJ hx.out hi hlt
theorem GI(t k:Int)(A:Option Addr)(n c:Nat)(xs:List ByteArray)(w:World)(hn:n=xs.length)(hl:n≤1048576)(hnc:n≤c)(hA:a7 w A xs)(hs:∀s∈xs,s.size≤1048576):
  Calls Tryz.prog 70 #[.int .i64 t,.agg #[.int .i64 k,.slice A n c]] w fun e w' =>e= .returned (.bool (bC aH t ⟨k,xs⟩))∧Below w.heap.size w w' :=by
 subst hn
 have HX0:Hid (aD (w.alloc (.cells #[.int .i64 k,.slice A xs.length c] 30)) w.heap.size 30 [.int .i64 k,.slice A xs.length c]):=aD.new w _ _
 have HB0:Hid (Below w.heap.size w (w.alloc (.cells #[.int .i64 k,.slice A xs.length c] 30))):=(Below.refl _ _).alloc (Nat.le_refl _) _
 have HA:=zH hA
 have HS:=zH hs
 have HNO:=zH (PN (t:=t) (k:=k) (xs:=xs))
 have HBS:Hid (∀x∈xs,aH.isS t x=false∨aH.sett t k x=true→bC aH t ⟨k,xs⟩=false):=fun x hx h=>vG hx h
 have HBI:Hid (∀j x,Hid (xs[j]? =some x)→x∈xs.take j→bC aH t ⟨k,xs⟩=false):=fun j x h1 h2=>UV h1 h2
 have HEND:Hid (jW t k xs=true→bC aH t ⟨k,xs⟩=(aO t k&&decide (k≠0)&&decide (xs.length≤4))):=CS
 obtain⟨R,HR⟩:∃R,Hid (bC aH t ⟨k,xs⟩=R):=⟨_,rfl⟩
 rw[HR.out] at HNO HBS HBI HEND⊢
 clear hA hs
 cases hset:aO t k with
 |false=>
  have HSO:=zH hset
  have HRF:=zH (HNO.out (.inl hset))
  clear hset
  go_enter Tryz.func70,Tryz.ntmps70
  go_wp2_with (go_at_call 104;refine(gX HSO _).mono ?_;rintro e w1 ⟨rfl,rfl⟩)
  go_ret
  exact⟨by rw[HRF.out]<;>rfl,HB0.out⟩
 |true=>
  have HSO:=zH hset
  by_cases hk0:k=0
  ·have HRF:=zH (HNO.out (.inr (.inl hk0)))
   subst hk0
   clear hset
   go_enter Tryz.func70,Tryz.ntmps70
   go_wp2_with (go_at_call 104;refine(gX HSO _).mono ?_;rintro e w1 ⟨rfl,rfl⟩)
   go_ret
   exact⟨by rw[HRF.out]<;>rfl,HB0.out⟩
  have hk2:(k==0)=false:=by rw[beq_eq_false_iff_ne];exact hk0
  by_cases h4:4<xs.length
  ·have HRF:=zH (HNO.out (.inr (.inr h4)))
   have hd:decide ((4:Int)<(xs.length:Int))=true:=decide_eq_true (by omega)
   clear hset hk0 h4
   go_enter Tryz.func70,Tryz.ntmps70
   go_wp2_with (go_at_call 104;refine(gX HSO _).mono ?_;rintro e w1 ⟨rfl,rfl⟩)
   go_ret
   exact⟨by rw[HRF.out]<;>rfl,HB0.out⟩
  have hd:decide ((4:Int)<(xs.length:Int))=false:=decide_eq_false (by omega)
  have HTRUE:Hid (jW t k xs=true→R=true):=fun h=>by
   rw[HEND.out h,hset,decide_eq_true hk0,decide_eq_true (show xs.length≤4 by omega)];rfl
  clear hset hk0 h4
  go_enter Tryz.func70,Tryz.ntmps70
  go_wp2_with (go_at_call 104;refine(gX HSO _).mono ?_;rintro e w1 ⟨rfl,rfl⟩)
  clear hd hk2
  go_loopw [28] (fun i wr=>∃j:Nat,j≤xs.length∧i= .int .i64 j∧Hid (jW t k (xs.take j)=true)∧Hid (aD wr w.heap.size 30 [.int .i64 k,.slice A xs.length c])∧Hid (Below w.heap.size w wr)) (fun i _=>xs.length-(Go.RowKit.intOf i).toNat)
  case atStart=>exact⟨0,Nat.zero_le _,rfl,rfl,HX0,HB0⟩
  case round=>
   obtain⟨j,hj,rfl,HG,HX,HB⟩:=hrel
   by_cases hlt:j<xs.length
   ·obtain⟨b,off,x,rfl,hcx,hx,hbl⟩:=(HA.out.below HB.out).elem hlt
    have hxs:x.size≤9223372036854775807:=Nat.le_trans (HS.out x (mT hx)) (by omega)
    have hc0:=HX.out.cell (i:=0) (v:= .int .i64 k) rfl
    have HSB:Hid (∀W:World,Calls Tryz.prog 105 #[.int .i64 t,.int .i64 k,.string x] W fun e w' =>e= .returned (.tuple #[.bool (aH.isS t x&&aH.sett t k x),.bool (aH.isS t x)])∧Below W.heap.size W w'):=fun W=>tQ x W HSO.out hxs
    have HBX:=zH (HBS.out x (mT hx))
    have HBJ:=zH (HBI.out j x hx)
    have HCO:Hid (∀W:World,a7 W (some ⟨b,off,none⟩) (xs.take j)→Calls Tryz.prog 106 #[.slice (some ⟨b,off,none⟩) j c,.string x] W fun e w' =>e= .returned (.bool (Lib.containsS (xs.take j) x))∧W=w'):=fun W h=>AK x j c (by rw[List.length_take];omega) (by omega) h
    have hjc:(j:Int)≤(c:Int):=by omega
    have hj0:(0:Int)≤(j:Int):=by omega
    cases hS:aH.isS t x with
    |false=>
     have HRF:=zH (HBX.out (.inl hS))
     rw[hS] at HSB
     clear hS
     go_wp2_with (go_at_call 105;refine(HSB.out _).mono ?_;rintro e w1 ⟨rfl,hb⟩;have HB1:=zH (aA HB.out hb);clear hb hc0)
     go_ret
     exact⟨by rw[HRF.out]<;>rfl,HB1.out⟩
    |true=>
     cases hE:aH.sett t k x with
     |true=>
      have HRF:=zH (HBX.out (.inr hE))
      rw[hS,hE] at HSB
      clear hS hE
      go_wp2_with (go_at_call 105;refine(HSB.out _).mono ?_;rintro e w1 ⟨rfl,hb⟩;have HB1:=zH (aA HB.out hb);clear hb hc0)
      go_ret
      exact⟨by rw[HRF.out]<;>rfl,HB1.out⟩
     |false=>
      have HS1:=zH hS
      have HE1:=zH hE
      rw[hS,hE] at HSB
      clear hS hE
      cases hm:Lib.containsS (xs.take j) x with
      |true=>
       have HRF:=zH (HBJ.out ((Lib.containsS_iff _ _).1 hm))
       rw[hm] at HCO
       clear hm
       go_wp2_with (first
        |(go_at_call 105;refine(HSB.out _).mono ?_;rintro e w1 ⟨rfl,hb⟩;have HB1:=zH (aA HB.out hb);have HX1:=zH (HX.out.below hb);have hc1:=HX1.out.cell (i:=1) (v:= .slice (some ⟨b,off,none⟩) xs.length c) rfl;have HA1:=zH ((HA.out.below HB1.out).take j);clear hb hc0)
        |(go_at_call 106;refine(HCO.out _ HA1.out).mono ?_;rintro e w2 ⟨rfl,rfl⟩))
       go_ret
       exact⟨by rw[HRF.out]<;>rfl,HB1.out⟩
      |false=>
       have HGN:Hid (jW t k (xs.take (j+1))=true):=by
        unfold Hid
        rw[nN hx]
        exact AU HG.out HS1.out HE1.out fun h=>by rw[(Lib.containsS_iff _ _).2 h] at hm;cases hm
       rw[hm] at HCO
       clear hm
       go_wp2_with (first
        |(go_at_call 105;refine(HSB.out _).mono ?_;rintro e w1 ⟨rfl,hb⟩;have HB1:=zH (aA HB.out hb);have HX1:=zH (HX.out.below hb);have hc1:=HX1.out.cell (i:=1) (v:= .slice (some ⟨b,off,none⟩) xs.length c) rfl;have HA1:=zH ((HA.out.below HB1.out).take j);clear hb hc0)
        |(go_at_call 106;refine(HCO.out _ HA1.out).mono ?_;rintro e w2 ⟨rfl,rfl⟩))
       go_roundw
       case rel=>exact⟨j+1,by omega,by go_num,HGN,HX1,HB1⟩
       case measure=>simp[Go.RowKit.intOf];omega
   ·obtain rfl:j=xs.length:=by omega
    rw[List.take_length] at HG
    have HRT:=zH (HTRUE.out HG.out)
    go_wp2_with fail
    go_ret
    exact⟨by rw[HRT.out]<;>rfl,HB.out⟩
end Go.Proofs.YtfhjcacfchkdpaaGreatDoor
