/-
  What the proofs of this seat's statements share (DrwD, AppQ).
-/
import Derived.Deep.Cut
import Derived.Deep.CutRange
import Derived.Deep.RegionWith
import Derived.Test.YtfhjcacfchkdpaaGreatDoorU41
set_option maxRecDepth 100000
set_option maxHeartbeats 32000000
namespace Go.Proofs.YtfhjcacfchkdpaaGreatDoor
open Go.RowKit
def FJ(g u:Nat)(w:World)(e:Ending)(w' :World):Prop:=∃(k:Int) (s:ByteArray),e= .returned (.agg #[.int .i64 k,.string s])∧s.size≤100∧Rd w' g u∧w.grownBy w' (some g)
theorem DM.more{g u v:Nat}{W0 w:World}(h:DM g u W0 w)(hv:u≤v):DM g v W0 w:=⟨h.rd.more hv,h.gr⟩
theorem DM.start{g u:Nat}{W0:World}(h:Rd W0 g u):DM g u W0 W0:=⟨h,World.grownBy.refl _ _⟩
theorem aD.storeA{W:World}{b:Nat}{T:TypeId}{x y:Value}(h:aD W b T [x,y]):
  W.cell? ⟨b,0,none⟩=some x∧W.cell? ⟨b,1,none⟩=some y∧W.frozen? ⟨b,0,none⟩=false∧W.frozen? ⟨b,1,none⟩=false∧(∀u,(W.setCell ⟨b,0,none⟩ u).cell? ⟨b,1,none⟩=some y)∧(∀u,(W.setCell ⟨b,0,none⟩ u).frozen? ⟨b,1,none⟩=false):=by
 obtain⟨⟨a,b2,c,d⟩,_⟩:=h.store2 x y
 exact⟨a,b2,c,d,fun u=>(h.store2 u y).2.1.1,fun u=>(h.store2 u y).2.1.2⟩
theorem mN{g u:Nat}{w W0 X:World}(h:DM g u W0 X)(hb:Below w.heap.size w W0)(hg:g<w.heap.size)(a b:Value):
  Rd ((X.setCell ⟨w.heap.size+1,0,none⟩ a).setCell ⟨w.heap.size+1,1,none⟩ b) g u∧w.grownBy ((X.setCell ⟨w.heap.size+1,0,none⟩ a).setCell ⟨w.heap.size+1,1,none⟩ b) (some g):=
 ⟨EU (EU h.rd (by omega)) (by omega),lM (lM ((fU (World.grownBy.refl w (some g)) hb).trans h.gr) (by omega)) (by omega)⟩
theorem UF(w:World)(o:Obj)(T:TypeId)(cs:List Value):aD ((w.alloc o).alloc (.cells cs.toArray T)) (w.heap.size+1) T cs:=by
 have:=aD.new (w.alloc o) T cs
 rw[World.size_alloc] at this
 exact this
def qU(g u:Nat)(W0:World)(s5:Value)(wx:World):Prop:=∃(h:Nat) (k:Int),s5= .pointer (some ⟨h,0,none⟩)∧W0.heap.size≤h∧Hid (aD wx h 41 [.int .i64 k,.string ⟨#[]⟩])∧Hid (DM g (u+2) W0 wx)
theorem KN(w:World)(a b c d:Value):∃W,(w.alloc (.cells #[a,b,c,d] 33)).alloc (.cells #[.int .i64 0,.string ⟨#[]⟩] 41)=W∧Hid (aD W w.heap.size 33 [a,b,c,d])∧Hid (aD W (w.heap.size+1) 41 [.int .i64 0,.string ⟨#[]⟩])∧Hid (Below w.heap.size w W):=by
 refine⟨_,rfl,(aD.new w _ [a,b,c,d]).alloc _,?_,((Below.refl _ _).alloc (Nat.le_refl _) _).alloc (by rw[World.size_alloc];omega) _⟩
 have:=aD.new (w.alloc (.cells #[a,b,c,d] 33)) 41 [.int .i64 0,.string ⟨#[]⟩]
 rw[World.size_alloc] at this
 exact this
theorem Y9{g u:Nat}{W0 w3:World}{a:Int}(hm:DM g (u+2) W0 w3)(h:W0.heap.size≤w3.heap.size):qU g u W0 (.pointer (some ⟨w3.heap.size,0,none⟩)) (w3.alloc (.cells #[.int .i64 a,.string ⟨#[]⟩] 41)):=
 ⟨_,_,rfl,h,aD.new w3 41 [.int .i64 a,.string ⟨#[]⟩],hm.alloc _⟩
theorem ZB{g u h:Nat}{W0 w3:World}{a:Int}(hm:DM g (u+2) W0 w3)(hb:aD w3 h 41 [.int .i64 0,.string ⟨#[]⟩])(hh:W0.heap.size≤h)(hg:g<W0.heap.size):
  qU g u W0 (.pointer (some ⟨h,0,none⟩)) ((w3.setCell ⟨h,0,none⟩ (.int .i64 a)).setCell ⟨h,1,none⟩ (.string ⟨#[]⟩)):=
 ⟨h,a,rfl,hh,(hb.set 0 _).set 1 _,(hm.set hh hg).set hh hg⟩
theorem Y6{g u:Nat}{W0 w3:World}{a:Int}{o:Obj}(hm:DM g (u+2) W0 w3)(h:W0.heap.size≤w3.heap.size):qU g u W0 (.pointer (some ⟨w3.heap.size+1,0,none⟩)) ((w3.alloc o).alloc (.cells #[.int .i64 a,.string ⟨#[]⟩] 41)):=
 ⟨_,a,rfl,by omega,UF w3 o 41 [.int .i64 a,.string ⟨#[]⟩],(hm.alloc _).alloc _⟩
theorem Y7{g u:Nat}{W0 w3:World}{a:Int}{o:Obj}(hm:DM g (u+2) W0 w3)(h:W0.heap.size≤w3.heap.size):qU g u W0 (.pointer (some ⟨w3.heap.size,0,none⟩)) ((w3.alloc (.cells #[.int .i64 a,.string ⟨#[]⟩] 41)).alloc o):=
 ⟨_,a,rfl,h,(aD.new w3 41 [.int .i64 a,.string ⟨#[]⟩]).alloc _,(hm.alloc _).alloc _⟩
theorem Y5{g u h:Nat}{W0 w3:World}{a:Int}{o:Obj}(hm:DM g (u+2) W0 w3)(hb:aD w3 h 41 [.int .i64 0,.string ⟨#[]⟩])(hh:W0.heap.size≤h)(hg:g<W0.heap.size):
  qU g u W0 (.pointer (some ⟨h,0,none⟩)) (((w3.alloc o).setCell ⟨h,0,none⟩ (.int .i64 a)).setCell ⟨h,1,none⟩ (.string ⟨#[]⟩)):=
 ⟨h,a,rfl,hh,((hb.alloc o).set 0 _).set 1 _,((hm.alloc o).set hh hg).set hh hg⟩
theorem FD(g u:Nat)(t q:Int)(o p:Value)(A B:Option Addr)(n c m d:Nat)(ho:o= .slice A n c)(hp:p= .slice B m d)(w:World)(hu:u≤800000)(hR:Rd w g u):
  Calls Tryz.prog 88 #[.pointer (some ⟨g,0,none⟩),.agg #[.int .i64 t,.int .i64 q,o,p]] w (FJ g (u+50) w):=by
 subst ho hp
 have hlt:=hR.lt
 obtain⟨W0,hW0,HT0,HD0,HB0⟩:=KN w (.int .i64 t) (.int .i64 q) (.slice A n c) (.slice B m d)
 have HS:Hid (DM g u W0 W0):=DM.start (hR.below HB0.out)
 have hlt0:g<W0.heap.size:=Nat.lt_of_lt_of_le hlt HB0.out.size
 have hx1lt:w.heap.size+1<W0.heap.size:=HD0.out.lt
 clear hR
 go_enter Tryz.func88,Tryz.ntmps88
 go_upto_region 1 with fail
 clear hW0
 have HP7:=zH (cE g u 7 (W0.drew) (by omega) (by omega) (by omega) HS.out.drew.rd)
 have HP7L:=zH (cE g u 7 ((W0.alloc (.cells #[.int .i64 0,.int .i64 0,.int .i64 0,.int .i64 1,.int .i64 1,.int .i64 1,.int .i64 2] 3)).drew) (by omega) (by omega) (by omega) (HS.out.alloc _).drew.rd)
 have HL7L:Hid (eZ ((W0.alloc (.cells #[.int .i64 0,.int .i64 0,.int .i64 0,.int .i64 1,.int .i64 1,.int .i64 1,.int .i64 2] 3)).drew) (W0.heap.size)):=by have:=eZ.new W0;(try rw[World.size_alloc] at this);exact this
 have HP7A:=zH (cE g u 7 ((W0.alloc (.cells #[.int .i64 0,.string ⟨#[]⟩] 41)).drew) (by omega) (by omega) (by omega) (HS.out.alloc _).drew.rd)
 have HB7A:Hid (aD ((W0.alloc (.cells #[.int .i64 0,.string ⟨#[]⟩] 41)).drew) (W0.heap.size) 41 [.int .i64 0,.string ⟨#[]⟩]):=by have:=aD.new W0 41 [.int .i64 0,.string ⟨#[]⟩];(try rw[World.size_alloc] at this);exact this
 have HP7LA:=zH (cE g u 7 (((W0.alloc (.cells #[.int .i64 0,.int .i64 0,.int .i64 0,.int .i64 1,.int .i64 1,.int .i64 1,.int .i64 2] 3)).alloc (.cells #[.int .i64 0,.string ⟨#[]⟩] 41)).drew) (by omega) (by omega) (by omega) ((HS.out.alloc _).alloc _).drew.rd)
 have HL7LA:Hid (eZ (((W0.alloc (.cells #[.int .i64 0,.int .i64 0,.int .i64 0,.int .i64 1,.int .i64 1,.int .i64 1,.int .i64 2] 3)).alloc (.cells #[.int .i64 0,.string ⟨#[]⟩] 41)).drew) (W0.heap.size)):=by have:=(eZ.new W0).alloc (.cells #[.int .i64 0,.string ⟨#[]⟩] 41);(try rw[World.size_alloc] at this);exact this
 have HB7LA:Hid (aD (((W0.alloc (.cells #[.int .i64 0,.int .i64 0,.int .i64 0,.int .i64 1,.int .i64 1,.int .i64 1,.int .i64 2] 3)).alloc (.cells #[.int .i64 0,.string ⟨#[]⟩] 41)).drew) (W0.heap.size+1) 41 [.int .i64 0,.string ⟨#[]⟩]):=by have:=aD.new (W0.alloc (.cells #[.int .i64 0,.int .i64 0,.int .i64 0,.int .i64 1,.int .i64 1,.int .i64 1,.int .i64 2] 3)) 41 [.int .i64 0,.string ⟨#[]⟩];(try rw[World.size_alloc] at this);exact this
 have HP7AL:=zH (cE g u 7 (((W0.alloc (.cells #[.int .i64 0,.string ⟨#[]⟩] 41)).alloc (.cells #[.int .i64 0,.int .i64 0,.int .i64 0,.int .i64 1,.int .i64 1,.int .i64 1,.int .i64 2] 3)).drew) (by omega) (by omega) (by omega) ((HS.out.alloc _).alloc _).drew.rd)
 have HL7AL:Hid (eZ (((W0.alloc (.cells #[.int .i64 0,.string ⟨#[]⟩] 41)).alloc (.cells #[.int .i64 0,.int .i64 0,.int .i64 0,.int .i64 1,.int .i64 1,.int .i64 1,.int .i64 2] 3)).drew) (W0.heap.size+1)):=by have:=eZ.new (W0.alloc (.cells #[.int .i64 0,.string ⟨#[]⟩] 41));(try rw[World.size_alloc] at this);exact this
 have HB7AL:Hid (aD (((W0.alloc (.cells #[.int .i64 0,.string ⟨#[]⟩] 41)).alloc (.cells #[.int .i64 0,.int .i64 0,.int .i64 0,.int .i64 1,.int .i64 1,.int .i64 1,.int .i64 2] 3)).drew) (W0.heap.size) 41 [.int .i64 0,.string ⟨#[]⟩]):=by have:=(aD.new W0 41 [.int .i64 0,.string ⟨#[]⟩]).alloc (.cells #[.int .i64 0,.int .i64 0,.int .i64 0,.int .i64 1,.int .i64 1,.int .i64 1,.int .i64 2] 3);(try rw[World.size_alloc] at this);exact this
 have HQ:Hid (∀X,Rd X g (u+1)→Calls Tryz.prog 41 #[.pointer (some ⟨g,0,none⟩),.int .i64 60] X fun e w' =>GW g (u+1) 60 X e w'):=fun X h=>cE g (u+1) 60 X (by omega) (by omega) (by omega) h
 go_cut [5] from 6 to 16 (fun s5 wx=>qU g u W0 s5 wx)
 case first=>
  go_region_with (first
   |(go_at_call 41;(with_reducible refine HP7.out.mono ?_);rintro e w2 ⟨k,rfl,hk0,hk1,hr,hg⟩;have hk7:=hk1 (by omega);obtain⟨x1,hlit⟩:=CG hk0 hk7;have HM2:Hid (DM g (u+1) W0 w2):=(HS.out.drew).next hr hg;have hs2:W0.heap.size≤w2.heap.size:=HM2.out.gr.size;clear hr hg hk1)
   |(go_at_call 41;(with_reducible refine HP7L.out.mono ?_);rintro e w2 ⟨k,rfl,hk0,hk1,hr,hg⟩;have hk7:=hk1 (by omega);obtain⟨x1,hlit⟩:=CG hk0 hk7;have HM2:Hid (DM g (u+1) W0 w2):=((HS.out.alloc _).drew).next hr hg;have hs2:W0.heap.size≤w2.heap.size:=HM2.out.gr.size;have HL2:Hid (eZ w2 (W0.heap.size)):=HL7L.out.grown hg (by omega);obtain⟨x2,hc2⟩:=HL2.out.2 k hk0 hk7;have hc2a:=(World.cell?_alloc_lt w2 (.cells #[.int .i64 0,.string ⟨#[]⟩] 41) ⟨W0.heap.size,k.toNat,none⟩ HL2.out.1).trans hc2;clear hr hg hk1)
   |(go_at_call 41;(with_reducible refine HP7A.out.mono ?_);rintro e w2 ⟨k,rfl,hk0,hk1,hr,hg⟩;have hk7:=hk1 (by omega);obtain⟨x1,hlit⟩:=CG hk0 hk7;have HM2:Hid (DM g (u+1) W0 w2):=((HS.out.alloc _).drew).next hr hg;have hs2:W0.heap.size≤w2.heap.size:=HM2.out.gr.size;have HB2:Hid (aD w2 (W0.heap.size) 41 [.int .i64 0,.string ⟨#[]⟩]):=HB7A.out.grownO hg (fun j e=>by cases e;omega);clear hr hg hk1)
   |(go_at_call 41;(with_reducible refine HP7LA.out.mono ?_);rintro e w2 ⟨k,rfl,hk0,hk1,hr,hg⟩;have hk7:=hk1 (by omega);obtain⟨x1,hlit⟩:=CG hk0 hk7;have HM2:Hid (DM g (u+1) W0 w2):=(((HS.out.alloc _).alloc _).drew).next hr hg;have hs2:W0.heap.size≤w2.heap.size:=HM2.out.gr.size;have HL2:Hid (eZ w2 (W0.heap.size)):=HL7LA.out.grown hg (by omega);obtain⟨x2,hc2⟩:=HL2.out.2 k hk0 hk7;have hc2a:=(World.cell?_alloc_lt w2 (.cells #[.int .i64 0,.string ⟨#[]⟩] 41) ⟨W0.heap.size,k.toNat,none⟩ HL2.out.1).trans hc2;have HB2:Hid (aD w2 (W0.heap.size+1) 41 [.int .i64 0,.string ⟨#[]⟩]):=HB7LA.out.grownO hg (fun j e=>by cases e;omega);clear hr hg hk1)
   |(go_at_call 41;(with_reducible refine HP7AL.out.mono ?_);rintro e w2 ⟨k,rfl,hk0,hk1,hr,hg⟩;have hk7:=hk1 (by omega);obtain⟨x1,hlit⟩:=CG hk0 hk7;have HM2:Hid (DM g (u+1) W0 w2):=(((HS.out.alloc _).alloc _).drew).next hr hg;have hs2:W0.heap.size≤w2.heap.size:=HM2.out.gr.size;have HL2:Hid (eZ w2 (W0.heap.size+1)):=HL7AL.out.grown hg (by omega);obtain⟨x2,hc2⟩:=HL2.out.2 k hk0 hk7;have hc2a:=(World.cell?_alloc_lt w2 (.cells #[.int .i64 0,.string ⟨#[]⟩] 41) ⟨W0.heap.size+1,k.toNat,none⟩ HL2.out.1).trans hc2;have HB2:Hid (aD w2 (W0.heap.size) 41 [.int .i64 0,.string ⟨#[]⟩]):=HB7AL.out.grownO hg (fun j e=>by cases e;omega);clear hr hg hk1)
   |(go_at_call 41;(with_reducible refine(HQ.out w2 ?_).mono ?_);(exact HM2.out.rd);rintro e w3 ⟨k2,rfl,hj0,hj1,hr,hg⟩;have hj60:=hj1 (by omega);have HM3:Hid (DM g (u+2) W0 w3):=HM2.out.next hr hg;have hs3:w2.heap.size≤w3.heap.size:=Nat.le_trans (by(try simp only[World.size_alloc]);omega) hg.size;have HL3:Hid (eZ w3 (W0.heap.size)):=(HL2.out).grown hg (by omega);obtain⟨x3,hc3⟩:=HL3.out.2 k hk0 hk7;have hc3a:=(World.cell?_alloc_lt w3 (.cells #[.int .i64 0,.string ⟨#[]⟩] 41) ⟨W0.heap.size,k.toNat,none⟩ HL3.out.1).trans hc3;have HB3:Hid (aD w3 (W0.heap.size+1) 41 [.int .i64 0,.string ⟨#[]⟩]):=(HB2.out).grownO hg (fun j e=>by cases e;omega);obtain⟨h3a,h3b,h3c,h3d,h3e,h3f⟩:=HB3.out.storeA;clear hr hg hj1)
   |(go_at_call 41;(with_reducible refine(HQ.out w2 ?_).mono ?_);(exact HM2.out.rd);rintro e w3 ⟨k2,rfl,hj0,hj1,hr,hg⟩;have hj60:=hj1 (by omega);have HM3:Hid (DM g (u+2) W0 w3):=HM2.out.next hr hg;have hs3:w2.heap.size≤w3.heap.size:=Nat.le_trans (by(try simp only[World.size_alloc]);omega) hg.size;have HL3:Hid (eZ w3 (W0.heap.size+1)):=(HL2.out).grown hg (by omega);obtain⟨x3,hc3⟩:=HL3.out.2 k hk0 hk7;have hc3a:=(World.cell?_alloc_lt w3 (.cells #[.int .i64 0,.string ⟨#[]⟩] 41) ⟨W0.heap.size+1,k.toNat,none⟩ HL3.out.1).trans hc3;have HB3:Hid (aD w3 (W0.heap.size) 41 [.int .i64 0,.string ⟨#[]⟩]):=(HB2.out).grownO hg (fun j e=>by cases e;omega);obtain⟨h3a,h3b,h3c,h3d,h3e,h3f⟩:=HB3.out.storeA;clear hr hg hj1)
   |(go_at_call 41;(with_reducible refine(HQ.out w2 ?_).mono ?_);(exact HM2.out.rd);rintro e w3 ⟨k2,rfl,hj0,hj1,hr,hg⟩;have hj60:=hj1 (by omega);have HM3:Hid (DM g (u+2) W0 w3):=HM2.out.next hr hg;have hs3:w2.heap.size≤w3.heap.size:=Nat.le_trans (by(try simp only[World.size_alloc]);omega) hg.size;have HL3:Hid (eZ w3 (W0.heap.size)):=(HL2.out).grown hg (by omega);obtain⟨x3,hc3⟩:=HL3.out.2 k hk0 hk7;have hc3a:=(World.cell?_alloc_lt w3 (.cells #[.int .i64 0,.string ⟨#[]⟩] 41) ⟨W0.heap.size,k.toNat,none⟩ HL3.out.1).trans hc3;clear hr hg hj1)
   |(go_at_call 41;(with_reducible refine(HQ.out (w2.alloc (.cells #[.int .i64 0,.string ⟨#[]⟩] 41)) ?_).mono ?_);(exact(HM2.out.alloc _).rd);rintro e w3 ⟨k2,rfl,hj0,hj1,hr,hg⟩;have hj60:=hj1 (by omega);have HM3:Hid (DM g (u+2) W0 w3):=(HM2.out.alloc _).next hr hg;have hs3:w2.heap.size≤w3.heap.size:=Nat.le_trans (by(try simp only[World.size_alloc]);omega) hg.size;have HL3:Hid (eZ w3 (W0.heap.size)):=(HL2.out.alloc _).grown hg (by omega);obtain⟨x3,hc3⟩:=HL3.out.2 k hk0 hk7;have hc3a:=(World.cell?_alloc_lt w3 (.cells #[.int .i64 0,.string ⟨#[]⟩] 41) ⟨W0.heap.size,k.toNat,none⟩ HL3.out.1).trans hc3;have HB3:Hid (aD w3 (w2.heap.size) 41 [.int .i64 0,.string ⟨#[]⟩]):=(by have:=aD.grownO (aD.new w2 41 [.int .i64 0,.string ⟨#[]⟩]) hg (fun j e=>by cases e;(try simp only[World.size_alloc]);omega);(try rw[World.size_alloc] at this);exact this);obtain⟨h3a,h3b,h3c,h3d,h3e,h3f⟩:=HB3.out.storeA;clear hr hg hj1)
   |(go_at_call 41;(with_reducible refine(HQ.out w2 ?_).mono ?_);(exact HM2.out.rd);rintro e w3 ⟨k2,rfl,hj0,hj1,hr,hg⟩;have hj60:=hj1 (by omega);have HM3:Hid (DM g (u+2) W0 w3):=HM2.out.next hr hg;have hs3:w2.heap.size≤w3.heap.size:=Nat.le_trans (by(try simp only[World.size_alloc]);omega) hg.size;have HB3:Hid (aD w3 (W0.heap.size) 41 [.int .i64 0,.string ⟨#[]⟩]):=(HB2.out).grownO hg (fun j e=>by cases e;omega);obtain⟨h3a,h3b,h3c,h3d,h3e,h3f⟩:=HB3.out.storeA;obtain⟨h4a,h4b,h4c,h4d,h4e,h4f⟩:=(HB3.out.alloc (.cells #[.int .i64 0,.int .i64 0,.int .i64 0,.int .i64 1,.int .i64 1,.int .i64 1,.int .i64 2] 3)).storeA;clear hr hg hj1)
   |(go_at_call 41;(with_reducible refine(HQ.out (w2.alloc (.cells #[.int .i64 0,.int .i64 0,.int .i64 0,.int .i64 1,.int .i64 1,.int .i64 1,.int .i64 2] 3)) ?_).mono ?_);(exact(HM2.out.alloc _).rd);rintro e w3 ⟨k2,rfl,hj0,hj1,hr,hg⟩;have hj60:=hj1 (by omega);have HM3:Hid (DM g (u+2) W0 w3):=(HM2.out.alloc _).next hr hg;have hs3:w2.heap.size≤w3.heap.size:=Nat.le_trans (by(try simp only[World.size_alloc]);omega) hg.size;have HL3:Hid (eZ w3 (w2.heap.size)):=(by have:=eZ.grown (eZ.new w2) hg (by(try simp only[World.size_alloc]);omega);(try rw[World.size_alloc] at this);exact this);obtain⟨x3,hc3⟩:=HL3.out.2 k hk0 hk7;have hc3a:=(World.cell?_alloc_lt w3 (.cells #[.int .i64 0,.string ⟨#[]⟩] 41) ⟨w2.heap.size,k.toNat,none⟩ HL3.out.1).trans hc3;have HB3:Hid (aD w3 (W0.heap.size) 41 [.int .i64 0,.string ⟨#[]⟩]):=(HB2.out.alloc _).grownO hg (fun j e=>by cases e;omega);obtain⟨h3a,h3b,h3c,h3d,h3e,h3f⟩:=HB3.out.storeA;clear hr hg hj1)
   |(go_at_call 41;(with_reducible refine(HQ.out w2 ?_).mono ?_);(exact HM2.out.rd);rintro e w3 ⟨k2,rfl,hj0,hj1,hr,hg⟩;have hj60:=hj1 (by omega);have HM3:Hid (DM g (u+2) W0 w3):=HM2.out.next hr hg;have hs3:w2.heap.size≤w3.heap.size:=Nat.le_trans (by(try simp only[World.size_alloc]);omega) hg.size;obtain⟨h4a,h4b,h4c,h4d,h4e,h4f⟩:=((aD.new w3 41 [.int .i64 0,.string ⟨#[]⟩]).alloc (.cells #[.int .i64 0,.int .i64 0,.int .i64 0,.int .i64 1,.int .i64 1,.int .i64 1,.int .i64 2] 3)).storeA;clear hr hg hj1)
   |(go_at_call 41;(with_reducible refine(HQ.out (w2.alloc (.cells #[.int .i64 0,.int .i64 0,.int .i64 0,.int .i64 1,.int .i64 1,.int .i64 1,.int .i64 2] 3)) ?_).mono ?_);(exact(HM2.out.alloc _).rd);rintro e w3 ⟨k2,rfl,hj0,hj1,hr,hg⟩;have hj60:=hj1 (by omega);have HM3:Hid (DM g (u+2) W0 w3):=(HM2.out.alloc _).next hr hg;have hs3:w2.heap.size≤w3.heap.size:=Nat.le_trans (by(try simp only[World.size_alloc]);omega) hg.size;have HL3:Hid (eZ w3 (w2.heap.size)):=(by have:=eZ.grown (eZ.new w2) hg (by(try simp only[World.size_alloc]);omega);(try rw[World.size_alloc] at this);exact this);obtain⟨x3,hc3⟩:=HL3.out.2 k hk0 hk7;have hc3a:=(World.cell?_alloc_lt w3 (.cells #[.int .i64 0,.string ⟨#[]⟩] 41) ⟨w2.heap.size,k.toNat,none⟩ HL3.out.1).trans hc3;clear hr hg hj1)
   |(go_at_call 41;(with_reducible refine(HQ.out (w2.alloc (.cells #[.int .i64 0,.string ⟨#[]⟩] 41)) ?_).mono ?_);(exact(HM2.out.alloc _).rd);rintro e w3 ⟨k2,rfl,hj0,hj1,hr,hg⟩;have hj60:=hj1 (by omega);have HM3:Hid (DM g (u+2) W0 w3):=(HM2.out.alloc _).next hr hg;have hs3:w2.heap.size≤w3.heap.size:=Nat.le_trans (by(try simp only[World.size_alloc]);omega) hg.size;have HB3:Hid (aD w3 (w2.heap.size) 41 [.int .i64 0,.string ⟨#[]⟩]):=(by have:=aD.grownO (aD.new w2 41 [.int .i64 0,.string ⟨#[]⟩]) hg (fun j e=>by cases e;(try simp only[World.size_alloc]);omega);(try rw[World.size_alloc] at this);exact this);obtain⟨h3a,h3b,h3c,h3d,h3e,h3f⟩:=HB3.out.storeA;obtain⟨h4a,h4b,h4c,h4d,h4e,h4f⟩:=(HB3.out.alloc (.cells #[.int .i64 0,.int .i64 0,.int .i64 0,.int .i64 1,.int .i64 1,.int .i64 1,.int .i64 2] 3)).storeA;clear hr hg hj1)
   |(go_at_call 41;(with_reducible refine(HQ.out ((w2.alloc (.cells #[.int .i64 0,.int .i64 0,.int .i64 0,.int .i64 1,.int .i64 1,.int .i64 1,.int .i64 2] 3)).alloc (.cells #[.int .i64 0,.string ⟨#[]⟩] 41)) ?_).mono ?_);(exact((HM2.out.alloc _).alloc _).rd);rintro e w3 ⟨k2,rfl,hj0,hj1,hr,hg⟩;have hj60:=hj1 (by omega);have HM3:Hid (DM g (u+2) W0 w3):=((HM2.out.alloc _).alloc _).next hr hg;have hs3:w2.heap.size≤w3.heap.size:=Nat.le_trans (by(try simp only[World.size_alloc]);omega) hg.size;have HL3:Hid (eZ w3 (w2.heap.size)):=(by have:=eZ.grown ((eZ.new w2).alloc (.cells #[.int .i64 0,.string ⟨#[]⟩] 41)) hg (by(try simp only[World.size_alloc]);omega);(try rw[World.size_alloc] at this);exact this);obtain⟨x3,hc3⟩:=HL3.out.2 k hk0 hk7;have hc3a:=(World.cell?_alloc_lt w3 (.cells #[.int .i64 0,.string ⟨#[]⟩] 41) ⟨w2.heap.size,k.toNat,none⟩ HL3.out.1).trans hc3;have HB3:Hid (aD w3 (w2.heap.size+1) 41 [.int .i64 0,.string ⟨#[]⟩]):=(by have:=aD.grownO (aD.new (w2.alloc (.cells #[.int .i64 0,.int .i64 0,.int .i64 0,.int .i64 1,.int .i64 1,.int .i64 1,.int .i64 2] 3)) 41 [.int .i64 0,.string ⟨#[]⟩]) hg (fun j e=>by cases e;(try simp only[World.size_alloc]);omega);(try rw[World.size_alloc] at this);exact this);obtain⟨h3a,h3b,h3c,h3d,h3e,h3f⟩:=HB3.out.storeA;clear hr hg hj1)
   |(go_at_call 41;(with_reducible refine(HQ.out ((w2.alloc (.cells #[.int .i64 0,.string ⟨#[]⟩] 41)).alloc (.cells #[.int .i64 0,.int .i64 0,.int .i64 0,.int .i64 1,.int .i64 1,.int .i64 1,.int .i64 2] 3)) ?_).mono ?_);(exact((HM2.out.alloc _).alloc _).rd);rintro e w3 ⟨k2,rfl,hj0,hj1,hr,hg⟩;have hj60:=hj1 (by omega);have HM3:Hid (DM g (u+2) W0 w3):=((HM2.out.alloc _).alloc _).next hr hg;have hs3:w2.heap.size≤w3.heap.size:=Nat.le_trans (by(try simp only[World.size_alloc]);omega) hg.size;have HL3:Hid (eZ w3 (w2.heap.size+1)):=(by have:=eZ.grown (eZ.new (w2.alloc (.cells #[.int .i64 0,.string ⟨#[]⟩] 41))) hg (by(try simp only[World.size_alloc]);omega);(try rw[World.size_alloc] at this);exact this);obtain⟨x3,hc3⟩:=HL3.out.2 k hk0 hk7;have hc3a:=(World.cell?_alloc_lt w3 (.cells #[.int .i64 0,.string ⟨#[]⟩] 41) ⟨w2.heap.size+1,k.toNat,none⟩ HL3.out.1).trans hc3;have HB3:Hid (aD w3 (w2.heap.size) 41 [.int .i64 0,.string ⟨#[]⟩]):=(by have:=aD.grownO ((aD.new w2 41 [.int .i64 0,.string ⟨#[]⟩]).alloc (.cells #[.int .i64 0,.int .i64 0,.int .i64 0,.int .i64 1,.int .i64 1,.int .i64 1,.int .i64 2] 3)) hg (fun j e=>by cases e;(try simp only[World.size_alloc]);omega);(try rw[World.size_alloc] at this);exact this);obtain⟨h3a,h3b,h3c,h3d,h3e,h3f⟩:=HB3.out.storeA;clear hr hg hj1))
  all_goals
   go_wp2_with fail
   go_meet
   first|exact Y9 HM3.out (by omega)|exact ZB HM3.out HB3.out (by omega) hlt0|exact Y6 HM3.out (by omega)|exact Y7 HM3.out (by omega)|exact Y5 HM3.out HB3.out (by omega) hlt0
 case rest=>
  obtain⟨h,k,rfl,hh,HBX,HM⟩:=hcut
  clear HS HQ
  have hc0:=HBX.out.cell (i:=0) (v:= .int .i64 k) rfl
  have hc1:=HBX.out.cell (i:=1) (v:= .string ⟨#[]⟩) rfl
  have HT1:=zH (HM.out.box HT0.out (by omega))
  have ht0:=HT1.out.cell (i:=0) (v:= .int .i64 t) rfl
  have e0:(ByteArray.mk #[]).size=0:=rfl
  by_cases h0:k=0
  ·have hkb:(k==0)=true:=by rw[h0];rfl
   clear h0
   go_wp2_with fail
   refine(gY g _ t _ (by omega) HM.out.rd).mono ?_
   rintro e w4 ⟨s,rfl,hs1,hs2,hr,hg⟩
   have HM4:=zH (HM.out.next hr hg)
   have HX4:=zH (HBX.out.grownO hg (fun j e=>by cases e;omega))
   clear hr hg hc0 hc1 ht0
   have hf1:=HX4.out.frozen 1
   have hv1:=HX4.out.cell (i:=1) rfl
   have HM5:=zH (HM4.out.set (h:=h) (i:=1) (v:= .string s) hh hlt0)
   have HX5:=zH (HX4.out.set 1 (.string s))
   go_upto_region 9 with fail
   obtain⟨X5,hX5⟩:∃W,w4.setCell ⟨h,1,none⟩ (.string s)=W:=⟨_,rfl⟩
   rw[hX5] at HM5 HX5⊢
   clear hX5 hf1 hv1
   go_wp2_with fail
   refine(tB g _ 40 _ (by omega) (by omega) (by omega) HM5.out.rd).mono ?_
   rintro e w8 ⟨b,rfl,hr,hg⟩
   have HM8:=zH (HM5.out.next hr hg)
   have HX8:=zH (HX5.out.grownO hg (fun j e=>by cases e;omega))
   have HD8:=zH (HM8.out.box HD0.out (by omega))
   clear hr hg
   have hv0:=HX8.out.cell (i:=0) (v:= .int .i64 k) rfl
   have hv1:=HX8.out.cell (i:=1) rfl
   cases b
   ·obtain⟨⟨ha0,ha1,ha2,ha3⟩,⟨hb0,hb1⟩,HOUT⟩:=HD8.out.store2 (.int .i64 k) (.string s)
    have HFIN:=zH (mN (HM8.out.more (v:=u+50) (by omega)) HB0.out hlt (.int .i64 k) (.string s))
    go_wp2_with fail
    refine bodyPost_ret_by (iK (b:=w.heap.size+1) rfl rfl HOUT) rfl ⟨k,s,rfl,by omega,HFIN.out⟩
   ·have hf1:=HX8.out.frozen 1
    have HX9:=zH (HX8.out.set 1 (.string (s++⟨#[41]⟩)))
    have HM9:=zH (HM8.out.set (h:=h) (i:=1) (v:= .string (s++⟨#[41]⟩)) hh hlt0)
    have HD9:=zH (HM9.out.box HD0.out (by omega))
    have hn:(s++⟨#[41]⟩:ByteArray).size≤100:=by rw[ByteArray.size_append,a8];omega
    go_upto_region 11 with fail
    obtain⟨X9,hX9⟩:∃W,w8.setCell ⟨h,1,none⟩ (.string (s++⟨#[41]⟩))=W:=⟨_,rfl⟩
    rw[hX9] at HX9 HM9 HD9⊢
    clear hX9 hv0 hv1 hf1
    have hv0:=HX9.out.cell (i:=0) (v:= .int .i64 k) rfl
    have hv1:=HX9.out.cell (i:=1) rfl
    obtain⟨⟨ha0,ha1,ha2,ha3⟩,⟨hb0,hb1⟩,HOUT⟩:=HD9.out.store2 (.int .i64 k) (.string (s++⟨#[41]⟩))
    have HFIN:=zH (mN (HM9.out.more (v:=u+50) (by omega)) HB0.out hlt (.int .i64 k) (.string (s++⟨#[41]⟩)))
    go_wp2_with fail
    refine bodyPost_ret_by (iK (b:=w.heap.size+1) rfl rfl HOUT) rfl ⟨k,_,rfl,hn,HFIN.out⟩
  by_cases h1:k=1
  ·have hkb:(k==0)=false:=by rw[beq_eq_false_iff_ne];exact h0
   have hkc:(k==1)=true:=by rw[h1];rfl
   clear h0 h1
   go_wp2_with fail
   refine(gY g _ t _ (by omega) HM.out.rd).mono ?_
   rintro e w4 ⟨s,rfl,hs1,hs2,hr,hg⟩
   have HM4:=zH (HM.out.next hr hg)
   have HX4:=zH (HBX.out.grownO hg (fun j e=>by cases e;omega))
   clear hr hg hc0 hc1 ht0
   have hf1:=HX4.out.frozen 1
   have hv1:=HX4.out.cell (i:=1) rfl
   have hn0:(⟨#[63]⟩++s:ByteArray).size≤6:=by rw[ByteArray.size_append,a8];omega
   have HM5:=zH (HM4.out.set (h:=h) (i:=1) (v:= .string (⟨#[63]⟩++s)) hh hlt0)
   have HX5:=zH (HX4.out.set 1 (.string (⟨#[63]⟩++s)))
   go_upto_region 7 with fail
   obtain⟨X5,hX5⟩:∃W,w4.setCell ⟨h,1,none⟩ (.string (⟨#[63]⟩++s))=W:=⟨_,rfl⟩
   rw[hX5] at HM5 HX5⊢
   obtain⟨s5,hs5⟩:∃s5,(⟨#[63]⟩++s:ByteArray)=s5:=⟨_,rfl⟩
   rw[hs5] at hn0 HX5
   clear hX5 hf1 hv1 hs5 hs1 hs2
   have HX5:Hid (aD X5 h 41 [.int .i64 k,.string s5]):=HX5
   go_wp2_with fail
   refine(cE g _ 3 _ (by omega) (by omega) (by omega) HM5.out.rd).mono ?_
   rintro e w6 ⟨k3,rfl,hk30,hk31,hr,hg⟩
   have HM6:=zH (HM5.out.next hr hg)
   have HX6:=zH (HX5.out.grownO hg (fun j e=>by cases e;omega))
   clear hr hg hk31
   by_cases h3:k3=0
   ·have hkd:(k3==0)=true:=by rw[h3];rfl
    have HT6:=zH (HM6.out.box HT0.out (by omega))
    have ht0:=HT6.out.cell (i:=0) (v:= .int .i64 t) rfl
    clear h3
    go_wp2_with fail
    refine(NM g _ t _ (by omega) HM6.out.rd).mono ?_
    rintro e w7 ⟨s,rfl,hs1,hs2,hr,hg⟩
    have HM7:=zH (HM6.out.next hr hg)
    have HX7:=zH (HX6.out.grownO hg (fun j e=>by cases e;omega))
    clear hr hg ht0
    have hf1:=HX7.out.frozen 1
    have hv1:=HX7.out.cell (i:=1) rfl
    have HMB:=zH (HM7.out.set (h:=h) (i:=1) (v:= .string s) hh hlt0)
    have HXB:=zH (HX7.out.set 1 (.string s))
    go_upto_region 9 with fail
    obtain⟨XB,hXB⟩:∃W,w7.setCell ⟨h,1,none⟩ (.string s)=W:=⟨_,rfl⟩
    rw[hXB] at HMB HXB⊢
    clear hXB hf1 hv1
    go_wp2_with fail
    refine(tB g _ 40 _ (by omega) (by omega) (by omega) HMB.out.rd).mono ?_
    rintro e w8 ⟨b,rfl,hr,hg⟩
    have HM8:=zH (HMB.out.next hr hg)
    have HX8:=zH (HXB.out.grownO hg (fun j e=>by cases e;omega))
    have HD8:=zH (HM8.out.box HD0.out (by omega))
    clear hr hg
    have hv0:=HX8.out.cell (i:=0) (v:= .int .i64 k) rfl
    have hv1:=HX8.out.cell (i:=1) rfl
    cases b
    ·obtain⟨⟨ha0,ha1,ha2,ha3⟩,⟨hb0,hb1⟩,HOUT⟩:=HD8.out.store2 (.int .i64 k) (.string s)
     have HFIN:=zH (mN (HM8.out.more (v:=u+50) (by omega)) HB0.out hlt (.int .i64 k) (.string s))
     go_wp2_with fail
     refine bodyPost_ret_by (iK (b:=w.heap.size+1) rfl rfl HOUT) rfl ⟨k,s,rfl,by omega,HFIN.out⟩
    ·have hf1:=HX8.out.frozen 1
     have HX9:=zH (HX8.out.set 1 (.string (s++⟨#[41]⟩)))
     have HM9:=zH (HM8.out.set (h:=h) (i:=1) (v:= .string (s++⟨#[41]⟩)) hh hlt0)
     have HD9:=zH (HM9.out.box HD0.out (by omega))
     have hn:(s++⟨#[41]⟩:ByteArray).size≤100:=by rw[ByteArray.size_append,a8];omega
     go_upto_region 11 with fail
     obtain⟨X9,hX9⟩:∃W,w8.setCell ⟨h,1,none⟩ (.string (s++⟨#[41]⟩))=W:=⟨_,rfl⟩
     rw[hX9] at HX9 HM9 HD9⊢
     clear hX9 hv0 hv1 hf1
     have hv0:=HX9.out.cell (i:=0) (v:= .int .i64 k) rfl
     have hv1:=HX9.out.cell (i:=1) rfl
     obtain⟨⟨ha0,ha1,ha2,ha3⟩,⟨hb0,hb1⟩,HOUT⟩:=HD9.out.store2 (.int .i64 k) (.string (s++⟨#[41]⟩))
     have HFIN:=zH (mN (HM9.out.more (v:=u+50) (by omega)) HB0.out hlt (.int .i64 k) (.string (s++⟨#[41]⟩)))
     go_wp2_with fail
     refine bodyPost_ret_by (iK (b:=w.heap.size+1) rfl rfl HOUT) rfl ⟨k,_,rfl,hn,HFIN.out⟩
   ·have hkd:(k3==0)=false:=by rw[beq_eq_false_iff_ne];exact h3
    clear h3
    go_wp2_with fail
    refine(tB g _ 40 _ (by omega) (by omega) (by omega) HM6.out.rd).mono ?_
    rintro e w8 ⟨b,rfl,hr,hg⟩
    have HM8:=zH (HM6.out.next hr hg)
    have HX8:=zH (HX6.out.grownO hg (fun j e=>by cases e;omega))
    have HD8:=zH (HM8.out.box HD0.out (by omega))
    clear hr hg
    have hv0:=HX8.out.cell (i:=0) (v:= .int .i64 k) rfl
    have hv1:=HX8.out.cell (i:=1) rfl
    cases b
    ·obtain⟨⟨ha0,ha1,ha2,ha3⟩,⟨hb0,hb1⟩,HOUT⟩:=HD8.out.store2 (.int .i64 k) (.string s5)
     have HFIN:=zH (mN (HM8.out.more (v:=u+50) (by omega)) HB0.out hlt (.int .i64 k) (.string s5))
     go_wp2_with fail
     refine bodyPost_ret_by (iK (b:=w.heap.size+1) rfl rfl HOUT) rfl ⟨k,s5,rfl,by omega,HFIN.out⟩
    ·have hf1:=HX8.out.frozen 1
     have HX9:=zH (HX8.out.set 1 (.string (s5++⟨#[41]⟩)))
     have HM9:=zH (HM8.out.set (h:=h) (i:=1) (v:= .string (s5++⟨#[41]⟩)) hh hlt0)
     have HD9:=zH (HM9.out.box HD0.out (by omega))
     have hn:(s5++⟨#[41]⟩:ByteArray).size≤100:=by rw[ByteArray.size_append,a8];omega
     go_upto_region 11 with fail
     obtain⟨X9,hX9⟩:∃W,w8.setCell ⟨h,1,none⟩ (.string (s5++⟨#[41]⟩))=W:=⟨_,rfl⟩
     rw[hX9] at HX9 HM9 HD9⊢
     clear hX9 hv0 hv1 hf1
     have hv0:=HX9.out.cell (i:=0) (v:= .int .i64 k) rfl
     have hv1:=HX9.out.cell (i:=1) rfl
     obtain⟨⟨ha0,ha1,ha2,ha3⟩,⟨hb0,hb1⟩,HOUT⟩:=HD9.out.store2 (.int .i64 k) (.string (s5++⟨#[41]⟩))
     have HFIN:=zH (mN (HM9.out.more (v:=u+50) (by omega)) HB0.out hlt (.int .i64 k) (.string (s5++⟨#[41]⟩)))
     go_wp2_with fail
     refine bodyPost_ret_by (iK (b:=w.heap.size+1) rfl rfl HOUT) rfl ⟨k,_,rfl,hn,HFIN.out⟩
  ·have hkb:(k==0)=false:=by rw[beq_eq_false_iff_ne];exact h0
   have hkc:(k==1)=false:=by rw[beq_eq_false_iff_ne];exact h1
   clear h0 h1 ht0
   go_wp2_with fail
   refine(tB g _ 40 _ (by omega) (by omega) (by omega) HM.out.rd).mono ?_
   rintro e w8 ⟨b,rfl,hr,hg⟩
   have HM8:=zH (HM.out.next hr hg)
   have HX8:=zH (HBX.out.grownO hg (fun j e=>by cases e;omega))
   have HD8:=zH (HM8.out.box HD0.out (by omega))
   clear hr hg
   have hv0:=HX8.out.cell (i:=0) (v:= .int .i64 k) rfl
   have hv1:=HX8.out.cell (i:=1) rfl
   cases b
   ·obtain⟨⟨ha0,ha1,ha2,ha3⟩,⟨hb0,hb1⟩,HOUT⟩:=HD8.out.store2 (.int .i64 k) (.string ⟨#[]⟩)
    have HFIN:=zH (mN (HM8.out.more (v:=u+50) (by omega)) HB0.out hlt (.int .i64 k) (.string ⟨#[]⟩))
    go_wp2_with fail
    refine bodyPost_ret_by (iK (b:=w.heap.size+1) rfl rfl HOUT) rfl ⟨k,⟨#[]⟩,rfl,by rw[e0];omega,HFIN.out⟩
   ·have hf1:=HX8.out.frozen 1
    have HX9:=zH (HX8.out.set 1 (.string (⟨#[]⟩++⟨#[41]⟩)))
    have HM9:=zH (HM8.out.set (h:=h) (i:=1) (v:= .string (⟨#[]⟩++⟨#[41]⟩)) hh hlt0)
    have HD9:=zH (HM9.out.box HD0.out (by omega))
    have hn:(⟨#[]⟩++⟨#[41]⟩:ByteArray).size≤100:=by rw[ByteArray.size_append,a8];rw[e0];omega
    go_upto_region 11 with fail
    obtain⟨X9,hX9⟩:∃W,w8.setCell ⟨h,1,none⟩ (.string (⟨#[]⟩++⟨#[41]⟩))=W:=⟨_,rfl⟩
    rw[hX9] at HX9 HM9 HD9⊢
    clear hX9 hv0 hv1 hf1
    have hv0:=HX9.out.cell (i:=0) (v:= .int .i64 k) rfl
    have hv1:=HX9.out.cell (i:=1) rfl
    obtain⟨⟨ha0,ha1,ha2,ha3⟩,⟨hb0,hb1⟩,HOUT⟩:=HD9.out.store2 (.int .i64 k) (.string (⟨#[]⟩++⟨#[41]⟩))
    have HFIN:=zH (mN (HM9.out.more (v:=u+50) (by omega)) HB0.out hlt (.int .i64 k) (.string (⟨#[]⟩++⟨#[41]⟩)))
    go_wp2_with fail
    refine bodyPost_ret_by (iK (b:=w.heap.size+1) rfl rfl HOUT) rfl ⟨k,_,rfl,hn,HFIN.out⟩
theorem QY{W:World}{base:Nat}{v:Value}{xs:List ByteArray}(ty:TypeId)(y:ByteArray)(hown:aK W base v xs)(hl:xs.length≤1048576)(hb:base≤W.heap.size):
  ∃v' w',(Builtin.append_ #[28,28] ty #[v,.slice (some ⟨W.heap.size,0,none⟩) 1 1]).run Tryz.prog (W.alloc (.cells #[.string y] 9))= .ok v' w'∧aK w' base v' (xs++[y])∧(W.alloc (.cells #[.string y] 9)).grownBy w' v.ownBlock∧
   ∀b o u,v.ownBlock=some b→(W.alloc (.cells #[.string y] 9)).cell? ⟨b,o,none⟩=some u→w'.cell? ⟨b,o,none⟩=some u∨w'.cell? ⟨b,o,none⟩=some (.string y):=by
 have hown1:aK (W.alloc (.cells #[.string y] 9)) base v xs:=hown.below ((Below.refl _ _).alloc (Nat.le_refl _) _)
 obtain⟨v',w',hr,h1,h2⟩:=E2 (ys:=[y]) (m:=1) ty hown1 rfl (Nat.le_refl 1) (oH W y) (by omega) (by rw[World.size_alloc];omega)
 refine⟨v',w',hr,h1,h2,fun b o u hv hc=> ?_⟩
 obtain⟨i0,hi0,hz0,hz1,hz2⟩:=info_parts uN
 have hnews:∀j u,[Value.string y][j]? =some u→(W.alloc (.cells #[.string y] 9)).cell? ((⟨W.heap.size,0,none⟩:Addr).add j)=some u:=cell_one_new _ _ _
 rcases hown1.2 with⟨rfl,_⟩|⟨g,cap,cur,rfl,hbg,hg,hnc,hcm,hcs,htake⟩
 ·cases hv
 ·obtain rfl:g=b:=by simpa [Value.ownBlock] using hv
  have hcu:cur[o]? =some u:=by rw[←cell_of_row _ g o cur _ (0,0) hg];exact hc
  by_cases hroom:xs.length+1≤cap
  ·have hr2:=run_append_room (P:=Tryz.prog) (W.alloc (.cells #[.string y] 9)) 28 ty 9 i0 Tryz.underlying28 hi0 g xs.length cap cur hg ⟨W.heap.size,0,none⟩ 1 1 [.string y] (by rw[hz1];rfl) hnews (fun u hu=>by rw[List.mem_singleton] at hu;rw[hu];rfl) hroom (by rw[hz1,hcs];simp;omega)
   rw[hr] at hr2
   injection hr2 with e1 e2
   rw[hz1,Nat.mul_one] at e2
   have hh:=setRow_heap (W.alloc (.cells #[.string y] 9)) g cur (cur.toList.take xs.length++[Value.string y]++cur.toList.drop (xs.length+[Value.string y].length)).toArray 9 (0,0) hg
   rw[←e2] at hh
   rw[cell_of_row w' g o _ _ (0,0) hh,List.getElem?_toArray,List.append_assoc]
   have hsz:xs.length<cur.size:=by rw[hcs];omega
   have hcl:cur.toList.length=cur.size:=Array.length_toList
   have htl:(cur.toList.take xs.length).length=xs.length:=by rw[List.length_take,hcl];omega
   by_cases h3:o<xs.length
   ·left
    rw[List.getElem?_append_left (by omega),List.getElem?_take_of_lt h3,Array.getElem?_toList]
    exact hcu
   ·rw[List.getElem?_append_right (by omega),htl]
    by_cases h4:o=xs.length
    ·right
     rw[h4,Nat.sub_self];rfl
    ·left
     have e:xs.length+[Value.string y].length+(o-xs.length- [Value.string y].length)=o:=by simp only[List.length_singleton];omega
     rw[List.getElem?_append_right (by simp only[List.length_singleton];omega),List.getElem?_drop,Array.getElem?_toList,e]
     exact hcu
  ·have holds:∀j u,(xs.map Value.string)[j]? =some u→(W.alloc (.cells #[.string y] 9)).cell? ((⟨g,0,none⟩:Addr).add j)=some u:=World.ownsRow.cells hown1 (g:=g) rfl
   have hr2:=run_append_grow (P:=Tryz.prog) (W.alloc (.cells #[.string y] 9)) 28 ty 9 i0 _ Tryz.underlying28 hi0 hz0 ⟨g,0,none⟩ xs.length cap (xs.map Value.string) (by rw[hz1];simp) holds ⟨W.heap.size,0,none⟩ 1 1 [.string y] (by rw[hz1];rfl) hnews (by omega) (by omega) (growslice_fits (by omega) (by rw[hz2];omega))
   rw[hr] at hr2
   injection hr2 with e1 e2
   left
   have hlt:g<(W.alloc (.cells #[.string y] 9)).heap.size:=(Array.getElem?_eq_some_iff.1 hg).1
   rw[e2,World.cell?_of_block (w:=(W.alloc (.cells #[.string y] 9)))]
   ·exact hc
   ·exact Below.heap_alloc (W.alloc (.cells #[.string y] 9)).drew _ g hlt
theorem QA{W:World}{ops:Array Oper}{rest:List Oper}{o:Oper}{a:Act}{Q:Exit→Act→World→Prop}(hgd:o.guard=none)(s x:Operand)
  (ho:o.op= .call {callee:= .builtin .append,args:= #[s,x],argTypes:= #[28,28]}) (base:Nat) (v:Value) (xs:List ByteArray) (y:ByteArray) (hs:a.eval s=v) (hown:aK W base v xs)
  (hx:a.eval x= .slice (some ⟨W.heap.size,0,none⟩) 1 1) (hl:xs.length≤1048576) (hb:base≤W.heap.size)
  (h:∀v' w',aK w' base v' (xs++[y])→(W.alloc (.cells #[.string y] 9)).grownBy w' v.ownBlock→(∀b o u,v.ownBlock=some b→(W.alloc (.cells #[.string y] 9)).cell? ⟨b,o,none⟩=some u→w'.cell? ⟨b,o,none⟩=some u∨w'.cell? ⟨b,o,none⟩=some (.string y))→
   wpList Tryz.prog ops Q rest (a.put o.dst v') w'):wpList Tryz.prog ops Q (o::rest) a (W.alloc (.cells #[.string y] 9)):=by
 obtain⟨v',w',hr,h1,h2,h3⟩:=QY o.type y hown hl hb
 exact Lib.wpList_append_run _ hgd s x _ _ ho _ _ hs hx v' w' hr (h v' w' h1 h2 h3)
noncomputable def rereadS (w:World) (y:ByteArray) (g:Nat) (A:Option Addr) (xs:List ByteArray):List ByteArray:=
 xs.mapIdx fun j s=>match A with
  |some a=> @ite _ (a.block=g∧w.cell? ⟨g,a.off+j,none⟩=some (.string y)) (Classical.propDecidable _) y s
  |none=>s
theorem pB(w:World)(y:ByteArray)(g:Nat)(A:Option Addr)(xs:List ByteArray):(rereadS w y g A xs).length=xs.length:=by unfold rereadS;rw[List.length_mapIdx]
theorem LJ{w:World}{y:ByteArray}{g:Nat}{A:Option Addr}{xs:List ByteArray}{s:ByteArray}(h:s∈rereadS w y g A xs):s=y∨s∈xs:=by
 unfold rereadS at h
 obtain⟨j,hj⟩:=List.mem_iff_getElem?.1 h
 rw[List.getElem?_mapIdx] at hj
 obtain⟨x,hx,e⟩:=Option.map_eq_some_iff.1 hj
 have hm:=List.mem_of_getElem? hx
 cases A with
 |none=>right;simp only at e;rw[←e];exact hm
 |some a=>
  simp only at e
  split at e
  ·exact .inl e.symm
  ·right;rw[←e];exact hm
def JP(w:World)(a:Addr):Option Addr:=match w.cell? a with
 |some (.slice A _ _)=>A
 |_=>none
noncomputable def rereadX (w W1:World) (y:ByteArray) (g b off:Nat) (i:Nat) (x:St ByteArray):St ByteArray:=⟨x.known,rereadS w y g (JP W1 ⟨b,off+i*2+1,none⟩) x.op⟩
theorem sL{lo:Nat}{w:World}(o:Obj):aX lo w (w.alloc o):=aX.of_below ((Below.refl _ _).alloc (Nat.le_refl _) o)
theorem VG{W w' :World}{lo n c m d n' c' :Nat}{T:aL}{A B A' :Option Addr}{y:ByteArray}(h:f9 W lo T A n c B m d)(hs:cD T)(hy:y.size≤1048576)(hl:T.now.op.length<1048576)
  (ho:aK w' lo (.slice A' n' c') (T.now.op++[y])) (hg:(W.alloc (.cells #[.string y] 9)).grownBy w' (Value.slice A n c).ownBlock)
  (hcell:∀b o u,(Value.slice A n c).ownBlock=some b→(W.alloc (.cells #[.string y] 9)).cell? ⟨b,o,none⟩=some u→w'.cell? ⟨b,o,none⟩=some u∨w'.cell? ⟨b,o,none⟩=some (.string y)):
  ∃past,dL w' lo ⟨T.things,⟨T.now.known,T.now.op++[y]⟩,past⟩ A' n' c' B m d∧cD ⟨T.things,⟨T.now.known,T.now.op++[y]⟩,past⟩:=by
 obtain⟨hin,hown,hap,hlo⟩:=h
 obtain⟨W1,hW1⟩:∃W1,W.alloc (.cells #[.string y] 9)=W1:=⟨_,rfl⟩
 have hin1:dL W1 lo T A n c B m d:=by rw[←hW1];exact hin.keep (sL _)
 have hown1:aK W1 lo (.slice A n c) T.now.op:=by rw[←hW1];exact hown.below ((Below.refl _ _).alloc (Nat.le_refl _) _)
 rw[hW1] at hg hcell
 clear hW1 hin hown
 have hnow:∀w2,aX lo w' w2→n' =(T.now.op++[y]).length∧n'≤c'∧c'≤maxLen∧a7 w2 A' (T.now.op++[y]):=fun w2 hk=>by
  obtain⟨_,_,e,h1,h2,h3,_⟩:=(ho.keep hk).form
  cases e
  exact⟨rfl,h1,h2,h3⟩
 have hsm:∀past:List (St ByteArray),past.length=T.past.length→(∀x∈past,x.op.length≤1048576∧∀s∈x.op,s.size≤1048576)→cD ⟨T.things,⟨T.now.known,T.now.op++[y]⟩,past⟩:=fun past hpl hps=>
  ⟨by show(T.now.op++[y]).length≤_;rw[List.length_append];simp;omega,by show past.length≤_;rw[hpl];exact hs.past,fun s hm=>by
   rcases List.mem_append.1 hm with hm|hm
   ·exact hs.txt s hm
   ·rw[List.mem_singleton] at hm;rw[hm];exact hy,hps⟩
 cases A with
 |none=>
  refine⟨T.past,fun w2 hk=> ?_,hsm _ rfl hs.ops⟩
  have hk1:aX lo W1 w' :=⟨hg.size,fun b _ h2=>hg.block b h2 (by simp[Value.ownBlock])⟩
  obtain⟨e1,e2,e3,e4⟩:=hnow w2 hk
  have:=hin1 w2 (hk1.trans hk (Nat.le_refl _))
  exact⟨e1,e2,e3,e4,this.pn,this.pc,this.pm,this.hB⟩
 |some a=>
  obtain⟨g,hga⟩:∃g,a.block=g:=⟨_,rfl⟩
  have hob:(Value.slice (some a) n c).ownBlock=some g:=by simp[Value.ownBlock,hga]
  obtain⟨hg1,hg2⟩:=hown1.lt hob
  rw[hob] at hg
  have hT1:=hin1.at_
  have hback:∀w2,aX lo w' w2→∃w3,aX lo W1 w3∧(∀b o,b≠g→w3.cell? ⟨b,o,none⟩=w2.cell? ⟨b,o,none⟩)∧(∀o u,w3.cell? ⟨g,o,none⟩=some u→w2.cell? ⟨g,o,none⟩=w'.cell? ⟨g,o,none⟩∧W1.cell? ⟨g,o,none⟩=some u)∧w3.heap.size=w2.heap.size:=fun w2 hk=>by
   have hg2' :g<w'.heap.size:=Nat.lt_of_lt_of_le hg2 hg.size
   have hg3:g<w2.heap.size:=Nat.lt_of_lt_of_le hg2' hk.1
   have e1:({w2 with heap:=w2.heap.set g W1.heap[g] hg3}:World).heap[g]? =W1.heap[g]? :=by
    show(w2.heap.set g W1.heap[g] hg3)[g]? =_
    rw[Array.getElem?_set_self,Array.getElem?_eq_getElem hg2]
   have e2:∀b,b≠g→({w2 with heap:=w2.heap.set g W1.heap[g] hg3}:World).heap[b]? =w2.heap[b]? :=fun b hb=>by
    show(w2.heap.set g W1.heap[g] hg3)[b]? =_
    rw[Array.getElem?_set_ne hg3 (fun e=>hb e.symm)]
   have e3:({w2 with heap:=w2.heap.set g W1.heap[g] hg3}:World).heap.size=w2.heap.size:=Array.size_set hg3
   refine⟨{w2 with heap:=w2.heap.set g W1.heap[g] hg3},⟨by rw[e3];exact Nat.le_trans hg.size hk.1,fun b h1 h2=> ?_⟩,fun b o hb=>World.cell?_of_block (e2 b hb),fun o u hu=>⟨World.cell?_of_block (hk.2 g hg1 hg2'),?_⟩,e3⟩
   ·by_cases hb:b=g
    ·rw[hb];exact e1
    ·rw[e2 b hb,hk.2 b h1 (Nat.lt_of_lt_of_le h2 hg.size)]
     exact hg.block b h2 (fun e=>hb (Option.some.inj e))
   ·rw[World.cell?_of_block (w:=W1) e1] at hu;exact hu
  by_cases hp0:T.past.length=0
  ·refine⟨T.past,fun w2 hk=> ?_,hsm _ rfl hs.ops⟩
   obtain⟨e1,e2,e3,e4⟩:=hnow w2 hk
   exact⟨e1,e2,e3,e4,hT1.pn,hT1.pc,hT1.pm,fun h=>absurd h (by show¬0<T.past.length;omega)⟩
  obtain⟨b,off,rfl,hbl,_⟩:=hT1.hB (by omega)
  have hbg:b≠g:=fun e=>hap a ⟨b,off,none⟩ rfl rfl (by rw[hga];exact e.symm)
  have hblo:lo≤b:=hlo ⟨b,off,none⟩ rfl
  have hnew:∀i,(T.past.mapIdx (rereadX w' W1 y g b off))[i]? =(T.past[i]?).map (rereadX w' W1 y g b off i):=fun i=>List.getElem?_mapIdx
  refine⟨T.past.mapIdx (rereadX w' W1 y g b off),fun w2 hk=> ?_,hsm _ (by rw[List.length_mapIdx]) fun x hx=> ?_⟩
  ·obtain⟨e1,e2,e3,e4⟩:=hnow w2 hk
   obtain⟨w3,hk3,hf,hgc,hsz⟩:=hback w2 hk
   have hT3:=hin1 w3 hk3
   refine⟨e1,e2,e3,e4,by show m=(List.mapIdx _ _).length;rw[List.length_mapIdx];exact hT1.pn,hT1.pc,hT1.pm,fun _=>⟨b,off,rfl,by rw[←hsz];exact Nat.lt_of_lt_of_le hbl hk3.1,fun i x hx=> ?_⟩⟩
   have hx:(T.past.mapIdx (rereadX w' W1 y g b off))[i]? =some x:=hx
   rw[hnew] at hx
   obtain⟨x0,hx0,rfl⟩:=Option.map_eq_some_iff.1 hx
   obtain⟨b',off',e,hlt',hc3⟩:=hT3.hB (by omega)
   cases e
   obtain⟨Ai,ci,hc4,hc5,hc6,hc7,hc8⟩:=hc3 i x0 hx0
   have hsa:JP W1 ⟨b,off+i*2+1,none⟩=Ai:=by
    unfold JP
    rw[←World.cell?_of_block (w:=W1) (w' :=w3) (a:=⟨b,off+i*2+1,none⟩) (hk3.2 b hblo hbl),hc5]
   have hrx:rereadX w' W1 y g b off i x0=⟨x0.known,rereadS w' y g Ai x0.op⟩:=by unfold rereadX;rw[hsa]
   rw[hrx]
   refine⟨Ai,ci,(hf b _ hbg).symm.trans hc4,?_,?_,hc7,fun hpos=> ?_⟩
   ·show w2.cell? _=some (.slice Ai (rereadS w' y g Ai x0.op).length ci)
    rw[pB];exact(hf b _ hbg).symm.trans hc5
   ·show(rereadS w' y g Ai x0.op).length≤ci
    rw[pB];exact hc6
   ·have hpos:0<(rereadS w' y g Ai x0.op).length:=hpos
    rw[pB] at hpos
    obtain⟨ba,oa,rfl,hba,hcs⟩:=hc8 hpos
    refine⟨ba,oa,rfl,by rw[←hsz];exact hba,fun j hj=> ?_⟩
    have hj:j<(rereadS w' y g (some ⟨ba,oa,none⟩) x0.op).length:=hj
    rw[pB] at hj
    have hv:=hcs j hj
    have hre:(rereadS w' y g (some ⟨ba,oa,none⟩) x0.op).getD j ByteArray.empty= @ite _ (ba=g∧w'.cell? ⟨g,oa+j,none⟩=some (.string y)) (Classical.propDecidable _) y (x0.op.getD j ByteArray.empty):=by
     rw[List.getD_eq_getElem?_getD,List.getD_eq_getElem?_getD]
     unfold rereadS
     rw[List.getElem?_mapIdx,List.getElem?_eq_getElem hj]
     rfl
    show w2.cell? ⟨ba,oa+j,none⟩=some (.string ((rereadS w' y g (some ⟨ba,oa,none⟩) x0.op).getD j ByteArray.empty))
    rw[hre]
    by_cases hb:ba=g
    ·subst hb
     obtain⟨h1,h2⟩:=hgc _ _ hv
     rw[h1]
     by_cases hw:w'.cell? ⟨ba,oa+j,none⟩=some (.string y)
     ·rw[if_pos ⟨rfl,hw⟩];exact hw
     ·rw[if_neg fun h=>hw h.2]
      rcases hcell ba _ _ hob h2 with h|h
      ·exact h
      ·exact absurd h hw
    ·rw[if_neg fun h=>hb h.1,←hf ba _ hb];exact hv
  ·obtain⟨i,hi⟩:=List.mem_iff_getElem?.1 hx
   rw[hnew] at hi
   obtain⟨x0,hx0,rfl⟩:=Option.map_eq_some_iff.1 hi
   obtain⟨h1,h2⟩:=hs.ops x0 (List.mem_of_getElem? hx0)
   refine⟨by show(rereadS _ _ _ _ _).length≤_;rw[pB];exact h1,fun s hm=> ?_⟩
   rcases LJ hm with rfl|hm
   ·exact hy
   ·exact h2 s hm
end Go.Proofs.YtfhjcacfchkdpaaGreatDoor
