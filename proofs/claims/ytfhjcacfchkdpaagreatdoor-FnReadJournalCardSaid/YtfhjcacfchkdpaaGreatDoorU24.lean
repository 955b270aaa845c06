/-
  What the proofs of this seat's statements share (TlkF, TlkG, DrwD, AppQ, TlkH).
-/
import Derived.Deep.Cut
import Derived.Deep.CutRange
import Derived.Deep.CutBlock
import Derived.Deep.RegionWith
import Derived.Test.YtfhjcacfchkdpaaGreatDoorU23
set_option maxRecDepth 100000
set_option maxHeartbeats 32000000
namespace Go.Proofs.YtfhjcacfchkdpaaGreatDoor
open Go.RowKit
theorem BN{W w' :World}{k:Nat}{xs:List ByteArray}{row:Option Nat}(h:a7 W (some ⟨k,0,none⟩) xs)(hg:W.grownBy w' row)(hne:row≠some k):a7 w' (some ⟨k,0,none⟩) xs:=by
 intro hp
 obtain⟨b,off,e,hlt,hc⟩:=h hp
 cases e
 exact⟨k,0,rfl,Nat.lt_of_lt_of_le hlt hg.size,fun i hi=>(World.cell?_of_block (hg.block k hlt (fun e=>hne e.symm))).trans (hc i hi)⟩
theorem G5{w4 W w' :World}{h:Nat}{L u v:Value}{xs:List ByteArray}(hB:Below w4.heap.size w4 W)(hM:aD W h 30 [L,u])(hO:aK W (h+1) v xs)(hh:w4.heap.size=h)(hg:W.grownBy w' v.ownBlock):
  Below w4.heap.size w4 w'∧aD w' h 30 [L,u]:=
 ⟨hB.grown hg hB.size fun e he=>by have:=(hO.lt he).1;omega,hM.grownO hg fun k hk=>by have:=(hO.lt hk).1;omega⟩
theorem TA{w4 w' :World}{h:Nat}{L u v1:Value}{ys:List ByteArray}(hB:Below w4.heap.size w4 w')(hM:aD w' h 30 [L,u])(hr:aK w' (h+1) v1 ys)(hh:w4.heap.size=h):
  ∃A3 n3 c3,v1= .slice A3 n3 c3∧(w'.cell? ⟨h,1,none⟩=some u∧w'.frozen? ⟨h,1,none⟩=false)∧Below w4.heap.size w4 (w'.setCell ⟨h,1,none⟩ (.slice A3 n3 c3))∧aD (w'.setCell ⟨h,1,none⟩ (.slice A3 n3 c3)) h 30 [L,.slice A3 n3 c3]∧aK (w'.setCell ⟨h,1,none⟩ (.slice A3 n3 c3)) (h+1) (.slice A3 n3 c3) ys:=by
 obtain⟨A3,c3,rfl,_⟩:=hr.form
 have hlt:=hM.lt
 exact⟨A3,_,c3,rfl,⟨hM.cell rfl,hM.frozen 1⟩,EN hB (by omega) _,hM.set 1 _,hr.keep (aX.set (by omega))⟩
def OT(w4:World)(h:Nat)(q:Int)(ys:List ByteArray)(wx:World):Prop:=∃o',Hid (Below w4.heap.size w4 wx)∧Hid (aD wx h 30 [.int .i64 q,o'])∧Hid (aK wx (h+1) o' ys)
theorem uD{w:World}{lo n c:Nat}{A:Option Addr}{xs:List ByteArray}(h:aK w lo (.slice A n c) xs):a7 w A xs:=by
 obtain⟨_,_,e,_,_,h3,_⟩:=h.form
 cases e
 exact h3
theorem NA(T:aL)(A B:Option Addr)(n c m d:Nat)(text:ByteArray)(w:World)(hT:bN w T A n c B m d)(hs:cD T)(hx:text.size≤1048576)(hok:dP T=true)(hS:fY T.things text=true)(X:aL)(r:Bool)
  (hr:(gJ T 1 text=none∧X=T∧r=false)∨(gJ T 1 text=some X∧r=true)):
  Calls Tryz.prog 61 #[.agg #[.int .i64 T.things,.int .i64 T.now.known,.slice A n c,.slice B m d],.agg #[.int .i64 1,.string text]] w (rB X r w):=by
 obtain⟨tr,htr⟩:∃tr,dO T.things text=tr:=⟨_,rfl⟩
 obtain⟨wi,hwi⟩:∃wi,aB T.now.known tr=wi:=⟨_,rfl⟩
 obtain⟨ys,hys⟩:∃ys,T.now.op++[text]=ys:=⟨_,rfl⟩
 obtain⟨st,hst⟩:∃st,bC aH T.things ⟨T.now.known,ys⟩=st:=⟨_,rfl⟩
 have hdo:gJ T 1 text=if wi=true∧st=true then some (iG T ⟨T.now.known,ys⟩) else none:=by
  unfold gJ cX
  rw[if_neg (by decide),if_neg (by decide),if_pos rfl,if_pos (show aH.isS T.things text=true from hS)]
  subst hwi hst hys htr
  rfl
 have HNO:Hid (wi=false∨st=false→X=T∧r=false):=fun h=>by
  rw[hdo,if_neg (by rintro⟨h1,h2⟩;rcases h with h|h;rw[h] at h1;cases h1;rw[h] at h2;cases h2)] at hr
  rcases hr with⟨_,h2,h3⟩|⟨h2,_⟩
  ·exact⟨h2,h3⟩
  ·cases h2
 have HYES:Hid (wi=true→st=true→X=iG T ⟨T.now.known,ys⟩∧r=true):=fun h1 h2=>by
  rw[hdo,if_pos ⟨h1,h2⟩] at hr
  rcases hr with⟨h3,_⟩|⟨h3,h4⟩
  ·cases h3
  ·exact⟨(Option.some.inj h3).symm,h4⟩
 have hset:=((cS aH).1 ((cT aH).1 hok).1).1
 obtain⟨ht1,ht3,hq0,hqa,hq256⟩:=aZ hset
 have htr0:0≤tr∧tr<256:=by
  obtain⟨y,hy⟩:=iV.1 (show aH.isS T.things text=true from hS)
  have h1:=nK hy
  have h2:=(bH T.things).2
  rw[htr] at h1
  omega
 have HQ:Hid (0≤T.now.known∧T.now.known<256):=⟨hq0,hq256⟩
 have hop4:T.now.op.length≤4:=(pV ((cT aH).1 hok).1).1
 have HYL:Hid (ys.length≤1048576∧∀s∈ys,s.size≤1048576):=by
  refine⟨?_,fun s hm=> ?_⟩
  ·rw[←hys,List.length_append];simp;omega
  ·rw[←hys,List.mem_append,List.mem_singleton] at hm
   rcases hm with hm|rfl
   ·exact hs.txt s hm
   ·exact hx
 have HYS:=zH hys
 have HTR:=zH htr
 have HWI:=zH hwi
 have HSTA:=zH hst
 have HTR0:=zH htr0
 have HIS:=zH hS
 clear hr hdo hset ht1 ht3 hq0 hqa hq256 htr0 htr hS hwi hst hys
 obtain rfl:=hT.hn
 obtain rfl:=hT.pn
 obtain⟨HX0,HK0,HR0,HB0⟩:=rL w T.things T.now.known 1 text (.slice A T.now.op.length c) (.slice B T.past.length d)
 have HT:=zH hT
 have HS:=zH hs
 have hol:=hs.op
 have hpl:=hs.past
 have hx9:text.size≤9223372036854775807:=by omega
 obtain⟨t,ht⟩:∃t,T.things=t:=⟨_,rfl⟩
 obtain⟨q,hq⟩:∃q,T.now.known=q:=⟨_,rfl⟩
 have HTQ:Hid (T.things=t∧T.now.known=q):=⟨ht,hq⟩
 have HOK:Hid (∀W:World,Below w.heap.size w W→Calls Tryz.prog 13 #[.agg #[.int .i64 t,.int .i64 q,.slice A T.now.op.length c,.slice B T.past.length d]] W fun e w' =>e= .returned (.bool (dP T))∧Below W.heap.size W w'):=fun W h=>by
  have:=q7 T A B _ c _ d W (hT.below h) hs
  rw[ht,hq] at this;exact this
 have HCP:Hid (∀W:World,Below w.heap.size w W→w.heap.size+3≤W.heap.size→Calls Tryz.prog 60 #[.agg #[.int .i64 t,.int .i64 q,.slice A T.now.op.length c,.slice B T.past.length d]] W (tD T (w.heap.size+3) t q W)):=fun W h h2=>pF HTQ (hT.below h) hs h2
 rw[hok] at HOK
 rw[ht,hq] at HX0 HK0 HR0 HB0⊢
 have HOT:=zH hok
 clear hT hs ht hq hok
 go_enter Tryz.func61,Tryz.ntmps61
 go_wp2_with fail
 obtain⟨W0,hW0⟩:∃W,((w.alloc (.cells #[.int .i64 t,.int .i64 q,.slice A T.now.op.length c,.slice B T.past.length d] 33)).alloc (.cells #[.int .i64 1,.string text] 41)).alloc (.cells #[.int .i64 0,.int .i64 0,.slice none 0 0,.slice none 0 0] 33)=W:=⟨_,rfl⟩
 rw[hW0] at HX0 HK0 HR0 HB0⊢
 clear hW0
 refine(HOK.out _ HB0.out).mono ?_
 rintro e w1 ⟨rfl,hb⟩
 have HX1:=zH (HX0.out.below hb)
 have HK1:=zH (HK0.out.below hb)
 have HR1:=zH (HR0.out.below hb)
 have HB1:=zH (aA HB0.out hb)
 clear hb HX0 HK0 HR0 HB0 HOK
 have hx0:=HX1.out.cell (i:=0) (v:= .int .i64 t) rfl
 have hx1:=HX1.out.cell (i:=1) (v:= .int .i64 q) rfl
 have hx2:=HX1.out.cell (i:=2) (v:= .slice A T.now.op.length c) rfl
 have hx3:=HX1.out.cell (i:=3) (v:= .slice B T.past.length d) rfl
 rw[HTQ.out.1] at HIS HTR HSTA
 rw[HTQ.out.2] at HQ HWI HSTA HYES
 have hlo1:w.heap.size+3≤w1.heap.size:=by have:=HR1.out.lt;omega
 go_wp2_with fail
 refine(HCP.out _ HB1.out hlo1).mono ?_
 rintro e w2 ⟨A2,c2,B2,d2,vs,rfl,ho,hp,hb⟩
 obtain⟨g,hg⟩:∃g,w2.heap.size=g:=⟨_,rfl⟩
 have hsz2:w1.heap.size≤w2.heap.size:=hb.size
 have hD:iY w g [.int .i64 t,.int .i64 q,.slice A T.now.op.length c,.slice B T.past.length d] [.int .i64 1,.string text] [.int .i64 t,.int .i64 q,.slice A2 T.now.op.length c2,.slice B2 T.past.length d2] (w2.alloc (.cells #[.int .i64 t,.int .i64 q,.slice A2 T.now.op.length c2,.slice B2 T.past.length d2] 33)):=by
  have:=aD.new w2 33 [.int .i64 t,.int .i64 q,.slice A2 T.now.op.length c2,.slice B2 T.past.length d2]
  rw[hg] at this
  exact⟨(HX1.out.below hb).alloc _,(HK1.out.below hb).alloc _,(HR1.out.below hb).alloc _,this,(aA HB1.out hb).alloc (aA HB1.out hb).size _,by omega⟩
 have hbn:Below w2.heap.size w2 (w2.alloc (.cells #[.int .i64 t,.int .i64 q,.slice A2 T.now.op.length c2,.slice B2 T.past.length d2] 33)):=(Below.refl _ _).alloc (Nat.le_refl _) _
 have HO:Hid (aK (w2.alloc (.cells #[.int .i64 t,.int .i64 q,.slice A2 T.now.op.length c2,.slice B2 T.past.length d2] 33)) (w.heap.size+3) (.slice A2 T.now.op.length c2) T.now.op):=ho.below hbn
 have HP:Hid (aY 30 (w2.alloc (.cells #[.int .i64 t,.int .i64 q,.slice A2 T.now.op.length c2,.slice B2 T.past.length d2] 33)) (w.heap.size+3) (.slice B2 T.past.length d2) vs T.past):=hp.below hbn
 have HLT:Hid ((∀k,(Value.slice A2 T.now.op.length c2).ownBlock=some k→k<g)∧∀k,(Value.slice B2 T.past.length d2).ownBlock=some k→k<g):=by
  refine⟨fun k hk=> ?_,fun k hk=> ?_⟩
  ·have:=(ho.lt hk).2;omega
  ·have:=(hp.lt hk).2;omega
 have HD:=zH hD
 clear hD ho hp hb hbn hsz2 hlo1 hx0 hx1 hx2 hx3 HX1 HK1 HR1 HB1 HCP
 go_upto_region 4 with fail
 obtain⟨w3,hw3⟩:∃w3,w2.alloc (.cells #[.int .i64 t,.int .i64 q,.slice A2 T.now.op.length c2,.slice B2 T.past.length d2] 33)=w3:=⟨_,rfl⟩
 rw[hw3] at HD HO HP⊢
 have HSZ:Hid (w3.heap.size=g+1):=by unfold Hid;rw[←hw3,World.size_alloc,hg]
 clear hw3 hg
 have hx0:=HD.out.x.cell (i:=0) (v:= .int .i64 t) rfl
 have hx1:=HD.out.x.cell (i:=1) (v:= .int .i64 q) rfl
 have hx2:=HD.out.x.cell (i:=2) (v:= .slice A T.now.op.length c) rfl
 have hx3:=HD.out.x.cell (i:=3) (v:= .slice B T.past.length d) rfl
 have hk0:=HD.out.d.cell (i:=0) (v:= .int .i64 1) rfl
 have hk1:=HD.out.d.cell (i:=1) (v:= .string text) rfl
 have ho0:=HD.out.o.cell (i:=0) (v:= .int .i64 t) rfl
 have ho1:=HD.out.o.cell (i:=1) (v:= .int .i64 q) rfl
 have ho2:=HD.out.o.cell (i:=2) (v:= .slice A2 T.now.op.length c2) rfl
 have ho3:=HD.out.o.cell (i:=3) rfl
 go_wp2_with (go_at_call 98;refine(hV _ _ _ _ (by decide) (by decide)).mono ?_;rintro e w' ⟨rfl,rfl⟩)
 refine(fD HIS _ hx9).mono ?_
 rintro e w4 ⟨rfl,hb⟩
 have hgs:g<w3.heap.size:=HD.out.o.lt
 have hs34:w3.heap.size≤w4.heap.size:=hb.size
 clear hx0 hx1 hx2 hx3 hk0 hk1 ho0 ho1 ho2 ho3
 replace HD:=zH (HD.out.below hb)
 replace HO:=zH (HO.out.below hb)
 replace HP:=zH (HP.out.below hb)
 clear hb
 have hx0:=HD.out.x.cell (i:=0) (v:= .int .i64 t) rfl
 have hx1:=HD.out.x.cell (i:=1) (v:= .int .i64 q) rfl
 have hx2:=HD.out.x.cell (i:=2) (v:= .slice A T.now.op.length c) rfl
 have hx3:=HD.out.x.cell (i:=3) (v:= .slice B T.past.length d) rfl
 have hk0:=HD.out.d.cell (i:=0) (v:= .int .i64 1) rfl
 have hk1:=HD.out.d.cell (i:=1) (v:= .string text) rfl
 have ho0:=HD.out.o.cell (i:=0) (v:= .int .i64 t) rfl
 have ho1:=HD.out.o.cell (i:=1) (v:= .int .i64 q) rfl
 have ho2:=HD.out.o.cell (i:=2) (v:= .slice A2 T.now.op.length c2) rfl
 have ho3:=HD.out.o.cell (i:=3) rfl
 obtain⟨h,hh⟩:∃h,w4.heap.size=h:=⟨_,rfl⟩
 have HGH:Hid (g<h):=by unfold Hid;omega
 clear hgs hs34
 go_upto_region 12 with fail
 have HM:Hid (aD (w4.alloc (.cells #[.int .i64 q,.slice none 0 0] 30)) h 30 [.int .i64 q,.slice none 0 0]):=by
  have:=aD.new w4 30 [.int .i64 q,.slice none 0 0]
  rw[hh] at this;exact this
 have HB5:Hid (Below w4.heap.size w4 (w4.alloc (.cells #[.int .i64 q,.slice none 0 0] 30))):=(Below.refl _ _).alloc (Nat.le_refl _) _
 have HH:=zH hh
 have HSZ5:Hid ((w4.alloc (.cells #[.int .i64 q,.slice none 0 0] 30)).heap.size=h+1):=by unfold Hid;rw[World.size_alloc,hh]
 obtain⟨w5,hw5⟩:∃w5,w4.alloc (.cells #[.int .i64 q,.slice none 0 0] 30)=w5:=⟨_,rfl⟩
 rw[hw5] at HM HB5 HSZ5⊢
 clear hw5 hh
 clear hx0 hx1 hx2 hx3 hk0 hk1 ho0 ho1 ho2 ho3
 have HXW:Hid (∀W:World,Below w4.heap.size w4 W→W.cell? ⟨w.heap.size,2,none⟩=some (.slice A T.now.op.length c)∧W.cell? ⟨w.heap.size+1,1,none⟩=some (.string text)):=fun W hW=>⟨(HD.out.below hW).x.cell (i:=2) rfl,(HD.out.below hW).d.cell (i:=1) rfl⟩
 have hk0:=(HD.out.below HB5.out).d.cell (i:=0) (v:= .int .i64 1) rfl
 obtain⟨hx2,hk1⟩:=HXW.out _ HB5.out
 have hmc:=HT.out.hc
 have HOL:Hid (([]:List ByteArray).length+T.now.op.length≤4194304):=by unfold Hid;simp;omega
 have HOL2:Hid (T.now.op.length+1≤4194304):=by unfold Hid;omega
 have HA5:=zH (HT.out.hA.below (aA HD.out.b HB5.out))
 go_upto_region 21 with fail
 have hs5:h+1≤w5.drew.heap.size:=Nat.le_of_eq HSZ5.out.symm
 have HBA:Hid (Below w4.heap.size w4 (w5.drew.alloc (.cells #[] 9))):=(aE HB5.out 1).alloc (aE HB5.out 1).size _
 have HBT:Hid (Below w4.heap.size w4 (w5.drew.alloc (.cells #[.string text] 9))):=(aE HB5.out 1).alloc (aE HB5.out 1).size _
 have HBB:Hid (Below w4.heap.size w4 ((w5.drew.alloc (.cells #[] 9)).alloc (.cells #[.string text] 9))):=HBA.out.alloc HBA.out.size _
 have HBC:Hid (Below w4.heap.size w4 ((w5.drew.alloc (.cells #[.string text] 9)).alloc (.cells #[] 9))):=HBT.out.alloc HBT.out.size _
 have HMA:Hid (aD (w5.drew.alloc (.cells #[] 9)) h 30 [.int .i64 q,.slice none 0 0]):=(aD.drew HM.out).alloc _
 have HMB:Hid (aD ((w5.drew.alloc (.cells #[] 9)).alloc (.cells #[.string text] 9)) h 30 [.int .i64 q,.slice none 0 0]):=HMA.out.alloc _
 have HMC:Hid (aD ((w5.drew.alloc (.cells #[.string text] 9)).alloc (.cells #[] 9)) h 30 [.int .i64 q,.slice none 0 0]):=((aD.drew HM.out).alloc _).alloc _
 have HOA:Hid (aK (w5.drew.alloc (.cells #[] 9)) (h+1) (.slice (some ⟨w5.heap.size,0,none⟩) 0 0) []):=aK.lit0 w5.drew _ hs5
 have HOB:Hid (aK ((w5.drew.alloc (.cells #[] 9)).alloc (.cells #[.string text] 9)) (h+1) (.slice (some ⟨w5.heap.size,0,none⟩) 0 0) []):=HOA.out.below ((Below.refl _ _).alloc (Nat.le_refl _) _)
 have HOC:Hid (aK ((w5.drew.alloc (.cells #[.string text] 9)).alloc (.cells #[] 9)) (h+1) (.slice (some ⟨w5.heap.size+1,0,none⟩) 0 0) []):=by
  have:=aK.lit0 (w5.drew.alloc (.cells #[.string text] 9)) (h+1) (by rw[World.size_alloc];exact Nat.le_succ_of_le hs5)
  rw[World.size_alloc] at this
  exact this
 have HLB:Hid (a7 ((w5.drew.alloc (.cells #[] 9)).alloc (.cells #[.string text] 9)) (some ⟨w5.heap.size+1,0,none⟩) [text]):=by
  have:=oH (w5.drew.alloc (.cells #[] 9)) text
  rw[World.size_alloc] at this
  exact this
 have HLC:Hid (a7 ((w5.drew.alloc (.cells #[.string text] 9)).alloc (.cells #[] 9)) (some ⟨w5.heap.size,0,none⟩) [text]):=(oH w5.drew text).alloc _
 have HAA:Hid (a7 (w5.drew.alloc (.cells #[] 9)) A T.now.op):=(HA5.out.drewN 1).alloc _
 have HAB:Hid (a7 ((w5.drew.alloc (.cells #[] 9)).alloc (.cells #[.string text] 9)) A T.now.op):=HAA.out.alloc _
 have HAC:Hid (a7 ((w5.drew.alloc (.cells #[.string text] 9)).alloc (.cells #[] 9)) A T.now.op):=((HA5.out.drewN 1).alloc _).alloc _
 have hsA:=zH (show h+1≤(w5.drew.alloc (.cells #[] 9)).heap.size by rw[World.size_alloc];exact Nat.le_succ_of_le hs5)
 have hsB:=zH (show h+1≤((w5.drew.alloc (.cells #[] 9)).alloc (.cells #[.string text] 9)).heap.size by rw[World.size_alloc,World.size_alloc];exact Nat.le_succ_of_le (Nat.le_succ_of_le hs5))
 have hsC:=zH (show h+1≤((w5.drew.alloc (.cells #[.string text] 9)).alloc (.cells #[] 9)).heap.size by rw[World.size_alloc,World.size_alloc];exact Nat.le_succ_of_le (Nat.le_succ_of_le hs5))
 have HF1:Hid (∀(W w6:World) (v v1:Value),Below w4.heap.size w4 W→aD W h 30 [.int .i64 q,.slice none 0 0]→aK W (h+1) v []→aK w6 (h+1) v1 ([]++T.now.op)→W.grownBy w6 v.ownBlock→
   ∃A1 c1,v1= .slice A1 T.now.op.length c1∧Below w4.heap.size w4 w6∧aD w6 h 30 [.int .i64 q,.slice none 0 0]∧aK w6 (h+1) (.slice A1 T.now.op.length c1) T.now.op∧h+1≤w6.heap.size):=fun W w6 v v1 hB hM hO h1 hg=>by
  obtain⟨hb,hm⟩:=G5 hB hM hO HH.out hg
  obtain⟨A1,c1,rfl,_⟩:=h1.form
  exact⟨A1,c1,rfl,hb,hm,h1,hm.lt⟩
 have HF2:Hid (∀(W w7:World) (v v2:Value),Below w4.heap.size w4 W→aD W h 30 [.int .i64 q,.slice none 0 0]→aK W (h+1) v T.now.op→aK w7 (h+1) v2 (T.now.op++[text])→W.grownBy w7 v.ownBlock→
   ∃A3 n3 c3,v2= .slice A3 n3 c3∧(w7.cell? ⟨h,1,none⟩=some (.slice none 0 0)∧w7.frozen? ⟨h,1,none⟩=false)∧Below w4.heap.size w4 w7∧Below w4.heap.size w4 (w7.setCell ⟨h,1,none⟩ (.slice A3 n3 c3))∧OT w4 h q ys (w7.setCell ⟨h,1,none⟩ (.slice A3 n3 c3))):=fun W w7 v v2 hB hM hO h2 hg=>by
  obtain⟨hb,hm⟩:=G5 hB hM hO HH.out hg
  rw[HYS.out] at h2
  obtain⟨A3,n3,c3,rfl,h3,h4,h5,h6⟩:=TA hb hm h2 HH.out
  exact⟨A3,n3,c3,rfl,h3,hb,h4,_,h4,h5,h6⟩
 clear hk0
 go_cut [8] from 114 to 123 (fun s8 wx=>s8= .pointer (some ⟨h,0,none⟩)∧OT w4 h q ys wx)
 case first=>
  go_region_held3 (fun w' =>w'.cell? ⟨w.heap.size,2,none⟩=some (.slice A T.now.op.length c)∧w'.cell? ⟨w.heap.size+1,1,none⟩=some (.string text))
   (first|exact HK3.out|exact HK2.out|exact HK1.out|exact⟨hx2,hk1⟩|go_keep)
   (first
    |(refine d0 rfl _ _ rfl (h+1) (.slice (some ⟨w5.heap.size,0,none⟩) 0 0) [] T.now.op rfl HOA.out A T.now.op.length c rfl rfl hmc HAA.out HOL.out hsA.out ?_;intro v1 w6 ho1 hg1;obtain⟨A1,c1,rfl,hb6,hm6,ho6,hs6⟩:=HF1.out _ w6 _ v1 HBA.out HMA.out HOA.out ho1 hg1;have HK1:=zH (HXW.out _ hb6);have HOD:Hid (aK (w6.alloc (.cells #[.string text] 9)) (h+1) (.slice A1 T.now.op.length c1) T.now.op):=ho6.below ((Below.refl _ _).alloc (Nat.le_refl _) _);have HLD:Hid (a7 (w6.alloc (.cells #[.string text] 9)) (some ⟨w6.heap.size,0,none⟩) [text]):=oH w6 text;have HBD:Hid (Below w4.heap.size w4 (w6.alloc (.cells #[.string text] 9))):=hb6.alloc hb6.size _;have HMD:Hid (aD (w6.alloc (.cells #[.string text] 9)) h 30 [.int .i64 q,.slice none 0 0]):=hm6.alloc _;have HSD:Hid (h+1≤(w6.alloc (.cells #[.string text] 9)).heap.size):=(by unfold Hid;rw[World.size_alloc];exact Nat.le_succ_of_le hs6);clear ho1 hg1 hb6 hm6 ho6 hs6)
    |(refine d0 rfl _ _ rfl (h+1) (.slice (some ⟨w5.heap.size,0,none⟩) 0 0) [] T.now.op rfl HOB.out A T.now.op.length c rfl rfl hmc HAB.out HOL.out hsB.out ?_;intro v1 w6 ho1 hg1;obtain⟨A1,c1,rfl,hb6,hm6,ho6,hs6⟩:=HF1.out _ w6 _ v1 HBB.out HMB.out HOB.out ho1 hg1;have HK1:=zH (HXW.out _ hb6);have HOE:Hid (aK w6 (h+1) (.slice A1 T.now.op.length c1) T.now.op):=ho6;have HLE1:=zH (BN HLB.out hg1 (by intro e;simp only[Value.ownBlock,Option.some.injEq] at e;omega));have HBE1:=zH hb6;have HME:=zH hm6;have HSE:=zH hs6;clear ho1 hg1 hb6 hm6 ho6 hs6)
    |(refine d0 rfl _ _ rfl (h+1) (.slice (some ⟨w5.heap.size+1,0,none⟩) 0 0) [] T.now.op rfl HOC.out A T.now.op.length c rfl rfl hmc HAC.out HOL.out hsC.out ?_;intro v1 w6 ho1 hg1;obtain⟨A1,c1,rfl,hb6,hm6,ho6,hs6⟩:=HF1.out _ w6 _ v1 HBC.out HMC.out HOC.out ho1 hg1;have HK1:=zH (HXW.out _ hb6);have HOE:Hid (aK w6 (h+1) (.slice A1 T.now.op.length c1) T.now.op):=ho6;have HLE1:=zH (BN HLC.out hg1 (by intro e;simp only[Value.ownBlock,Option.some.injEq] at e;omega));have HBE1:=zH hb6;have HME:=zH hm6;have HSE:=zH hs6;clear ho1 hg1 hb6 hm6 ho6 hs6)
    |(refine d0 rfl _ _ rfl (h+1) (.slice A1 T.now.op.length c1) T.now.op [text] rfl HOD.out (some ⟨w6.heap.size,0,none⟩) 1 1 rfl rfl (Nat.le_refl _) HLD.out HOL2.out HSD.out ?_;intro v2 w7 ho2 hg2;obtain⟨A3,n3,c3,rfl,⟨hu1,hu2⟩,hb7,hb8,hmid⟩:=HF2.out _ w7 _ v2 HBD.out HMD.out HOD.out ho2 hg2;have HK2:=zH (HXW.out _ hb7);have HK3:=zH (HXW.out _ hb8);have HFIN:=zH hmid;clear ho2 hg2 hb7 hb8 hmid)
    |(refine d0 rfl _ _ rfl (h+1) (.slice A1 T.now.op.length c1) T.now.op [text] rfl HOE.out _ 1 1 rfl rfl (Nat.le_refl _) HLE1.out HOL2.out HSE.out ?_;intro v2 w7 ho2 hg2;obtain⟨A3,n3,c3,rfl,⟨hu1,hu2⟩,hb7,hb8,hmid⟩:=HF2.out _ w7 _ v2 HBE1.out HME.out HOE.out ho2 hg2;have HK2:=zH (HXW.out _ hb7);have HK3:=zH (HXW.out _ hb8);have HFIN:=zH hmid;clear ho2 hg2 hb7 hb8 hmid))
  all_goals
   go_wp2_with fail
   go_meet
   exact⟨rfl,HFIN.out⟩
 case rest=>
  obtain⟨rfl,o',HB,HMR,HOW⟩:=hcut
  clear HBA HBT HBB HBC HMA HMB HMC HOA HOB HOC HLB HLC HAA HAB HAC hsA hsB hsC hs5 HF1 HF2 HM HB5 HA5 HSZ5 HOL HOL2 hmc hx2 hk1
  obtain⟨Ao,co,hoe,_⟩:=HOW.out.form
  obtain⟨no,hno⟩:∃no,ys.length=no:=⟨_,rfl⟩
  rw[hno] at hoe
  subst hoe
  have HXV:Hid (∀W:World,Below w4.heap.size w4 W→W.cell? ⟨w.heap.size,0,none⟩=some (.int .i64 t)∧W.cell? ⟨w.heap.size+1,1,none⟩=some (.string text)):=fun W hW=>⟨(HD.out.below hW).x.cell (i:=0) rfl,(HD.out.below hW).d.cell (i:=1) rfl⟩
  have HTI:Hid (∀W:World,Calls Tryz.prog 67 #[.int .i64 t,.string text] W fun e w' =>e= .returned (.int .i64 tr)∧Below W.heap.size W w'):=fun W=>y4 HTR W hx9
  have HWN:Hid (∀W:World,Calls Tryz.prog 99 #[.int .i64 q,.int .i64 tr] W fun e w' =>e= .returned (.bool wi)∧∃n,w' =W.drewN n):=fun W=>gC HWI HQ.out.1 HQ.out.2 HTR0.out.1 HTR0.out.2 W
  have HS9:Hid (∀W:World,a7 W Ao ys→Calls Tryz.prog 49 #[.int .i64 t,.agg #[.int .i64 q,.slice Ao no co]] W fun e w' =>e= .returned (.bool st)∧Below W.heap.size W w'):=fun W hW=>t6 HSTA Ao no co W hno.symm (by rw[←hno];exact HYL.out.1) hW HYL.out.2
  have HNO1:=zH hno
  clear hno
  obtain⟨hx0,hk1⟩:=HXV.out _ HB.out
  have hm0:=HMR.out.cell (i:=0) (v:= .int .i64 q) rfl
  have hm1:=HMR.out.cell (i:=1) (v:= .slice Ao no co) rfl
  cases wi
  ·obtain⟨hXT,rfl⟩:=HNO.out (.inl rfl)
   obtain rfl:T=X:=hXT.symm
   go_upto_region 22 with fail
   refine wp_region_held_drew (S:=fun w' =>w'.cell? ⟨h,0,none⟩=some (.int .i64 q)∧w'.cell? ⟨w.heap.size,0,none⟩=some (.int .i64 t)∧w'.cell? ⟨w.heap.size+1,1,none⟩=some (.string text)∧w'.cell? ⟨h,1,none⟩=some (.slice Ao no co)) (by kernel_rfl) ⟨hm0,hx0,hk1,hm1⟩ (fun hSS=> ?_)
   refine wpAnyH_take (i:=0) (v:= .pointer (some ⟨h,0,none⟩)) rfl (by kernel_rfl) (by kernel_rfl) (by kernel_rfl) (fun _ _ _ h=>h) (Or.inl ⟨by rfl,fun w _=>by rfl⟩) (by assumption) ?_
   simp only[Act.put,zS]
   refine wpAnyH_take (i:=1) (v:= .int .i64 q) rfl (by kernel_rfl) (by kernel_rfl) (by kernel_rfl) (fun _ _ _ h=>h) (Or.inl ⟨by rfl,?_⟩) (by assumption) ?_
   ·intro wz hSw;(try dsimp only at hSw);go_simp
   simp only[Act.put,zS]
   refine wpAnyH_take (i:=2) (v:= .pointer (some ⟨w.heap.size,0,none⟩)) rfl (by kernel_rfl) (by kernel_rfl) (by kernel_rfl) (fun _ _ _ h=>h) (Or.inl ⟨by rfl,fun w _=>by rfl⟩) (by assumption) ?_
   simp only[Act.put,zS]
   refine wpAnyH_take (i:=3) (v:= .int .i64 t) rfl (by kernel_rfl) (by kernel_rfl) (by kernel_rfl) (fun _ _ _ h=>h) (Or.inl ⟨by rfl,?_⟩) (by assumption) ?_
   ·intro wz hSw;(try dsimp only at hSw);go_simp
   simp only[Act.put,zS]
   refine wpAnyH_take (i:=4) (v:= .pointer (some ⟨w.heap.size+1,1,none⟩)) rfl (by kernel_rfl) (by kernel_rfl) (by kernel_rfl) (fun _ _ _ h=>h) (Or.inl ⟨by rfl,fun w _=>by rfl⟩) (by assumption) ?_
   simp only[Act.put,zS]
   refine wpAnyH_take (i:=5) (v:= .string text) rfl (by kernel_rfl) (by kernel_rfl) (by kernel_rfl) (fun _ _ _ h=>h) (Or.inl ⟨by rfl,?_⟩) (by assumption) ?_
   ·intro wz hSw;(try dsimp only at hSw);go_simp
   simp only[Act.put,zS]
   refine wpAnyH_ready (rs:=[6]) (by kernel_rfl) (by simp) ?_
   refine AllReadyH.cons rfl (fun K hK=> ?_) AllReadyH.nil
   go_simp
   go_at_call 67
   refine(HTI.out _).mono ?_
   rintro e w13 ⟨rfl,hb⟩
   have HB13:=zH (aA (aE HB.out 1) hb)
   have HM13:=zH (aD.below (aD.drew HMR.out) hb)
   have HK1:=zH (And.intro (HM13.out.cell (i:=0) (v:= .int .i64 q) rfl) (And.intro (HXV.out _ HB13.out).1 (And.intro (HXV.out _ HB13.out).2 (HM13.out.cell (i:=1) (v:= .slice Ao no co) rfl))))
   clear hb
   try go_simp
   refine hK.out _ _ HK1.out (fun hSS=> ?_)
   clear hK K
   try simp only[Act.put,zS]
   refine wpAnyH_ready (rs:=[7]) (by kernel_rfl) (by simp) ?_
   refine AllReadyH.cons rfl (fun K hK=> ?_) AllReadyH.nil
   go_simp
   go_at_call 99
   refine(HWN.out _).mono ?_
   rintro e w14 ⟨rfl,n,rfl⟩
   have HB14:=zH (aE HB13.out n)
   try go_simp
   refine hK.out _ _ HK1.out (fun hSS=> ?_)
   clear hK K
   try simp only[Act.put,zS]
   refine wpAnyH_take (i:=8) (v:= .bool true) rfl (by kernel_rfl) (by kernel_rfl) (by kernel_rfl) (fun _ _ _ h=>h) (Or.inl ⟨by rfl,fun w _=>by rfl⟩) (by assumption) ?_
   simp only[Act.put,zS]
   refine wpAnyH_take (i:=9) (v:= .bool true) rfl (by kernel_rfl) (by kernel_rfl) (by kernel_rfl) (fun _ _ _ h=>h) (Or.inl ⟨by rfl,fun w _=>by rfl⟩) (by assumption) ?_
   simp only[Act.put,zS]
   refine wpAnyH_take (i:=10) (v:=undef) rfl (by kernel_rfl) (by kernel_rfl) (by kernel_rfl) (fun _ _ _ h=>h) (Or.inr ⟨by rfl,rfl⟩) (by assumption) ?_
   simp only[Act.put,zS]
   refine wpAnyH_take (i:=11) (v:=undef) rfl (by kernel_rfl) (by kernel_rfl) (by kernel_rfl) (fun _ _ _ h=>h) (Or.inr ⟨by rfl,rfl⟩) (by assumption) ?_
   simp only[Act.put,zS]
   refine wpAnyH_take (i:=12) (v:=undef) rfl (by kernel_rfl) (by kernel_rfl) (by kernel_rfl) (fun _ _ _ h=>h) (Or.inr ⟨by rfl,rfl⟩) (by assumption) ?_
   simp only[Act.put,zS]
   refine wpAnyH_take (i:=13) (v:=undef) rfl (by kernel_rfl) (by kernel_rfl) (by kernel_rfl) (fun _ _ _ h=>h) (Or.inr ⟨by rfl,rfl⟩) (by assumption) ?_
   simp only[Act.put,zS]
   refine wpAnyH_take (i:=14) (v:=undef) rfl (by kernel_rfl) (by kernel_rfl) (by kernel_rfl) (fun _ _ _ h=>h) (Or.inr ⟨by rfl,rfl⟩) (by assumption) ?_
   simp only[Act.put,zS]
   refine wpAnyH_take (i:=15) (v:= .bool true) rfl (by kernel_rfl) (by kernel_rfl) (by kernel_rfl) (fun _ _ _ h=>h) (Or.inl ⟨by rfl,fun w _=>by rfl⟩) (by assumption) ?_
   simp only[Act.put,zS]
   refine wpAnyH_done (by kernel_rfl) ?_ _
   clear hx0 hk1 hm0 hm1
   have HDR:=zH (HD.out.below HB14.out)
   have HOR:=zH (HO.out.below HB14.out)
   have HPR:=zH (HP.out.below HB14.out)
   have ho0:=HDR.out.o.cell (i:=0) (v:= .int .i64 t) rfl
   have ho1:=HDR.out.o.cell (i:=1) (v:= .int .i64 q) rfl
   have ho2:=HDR.out.o.cell (i:=2) (v:= .slice A2 T.now.op.length c2) rfl
   have ho3:=HDR.out.o.cell (i:=3) (v:= .slice B2 T.past.length d2) rfl
   obtain⟨⟨⟨ha0,ha1,ha2,ha3,ha4,ha5,ha6,ha7⟩,⟨hb2,hb3⟩,⟨hb4,hb5⟩,⟨hb6,hb7⟩⟩,HOUT,HIN,HBE⟩:=lX HDR.out (r8 HOR.out HPR.out)
   go_wp2_with fail
   refine bodyPost_ret_by (aU (b:=w.heap.size+2) rfl rfl rfl HOUT) rfl ⟨A2,_,c2,B2,_,d2,by rw[HTQ.out.1,HTQ.out.2];rfl,HIN.out,HBE.out⟩
  ·cases st
   ·obtain⟨hXT,rfl⟩:=HNO.out (.inr rfl)
    obtain rfl:T=X:=hXT.symm
    go_upto_region 22 with fail
    go_region_held3 (fun w' =>w'.cell? ⟨h,0,none⟩=some (.int .i64 q)∧w'.cell? ⟨w.heap.size,0,none⟩=some (.int .i64 t)∧w'.cell? ⟨w.heap.size+1,1,none⟩=some (.string text)∧w'.cell? ⟨h,1,none⟩=some (.slice Ao no co))
     (first|exact HK3.out|exact HK2.out|exact HK1.out|exact⟨hm0,hx0,hk1,hm1⟩|go_keep)
     (first
      |(go_at_call 67;refine(HTI.out _).mono ?_;rintro e w13 ⟨rfl,hb⟩;have HB13:=zH (aA (aE HB.out 1) hb);have HM13:=zH (aD.below (aD.drew HMR.out) hb);have HO13:=zH ((HOW.out.drewN 1).below hb);have HSTR:Hid (∀n,a7 (w13.drewN n) Ao ys):=(fun n=>uD (HO13.out.drewN n));have HK1:=zH (And.intro (HM13.out.cell (i:=0) (v:= .int .i64 q) rfl) (And.intro (HXV.out _ HB13.out).1 (And.intro (HXV.out _ HB13.out).2 (HM13.out.cell (i:=1) (v:= .slice Ao no co) rfl))));clear hb)
      |(go_at_call 99;refine(HWN.out _).mono ?_;rintro e w14 ⟨rfl,n,rfl⟩;have HK2:Hid ((w13.drewN n).cell? ⟨h,0,none⟩=some (.int .i64 q)∧(w13.drewN n).cell? ⟨w.heap.size,0,none⟩=some (.int .i64 t)∧(w13.drewN n).cell? ⟨w.heap.size+1,1,none⟩=some (.string text)∧(w13.drewN n).cell? ⟨h,1,none⟩=some (.slice Ao no co)):=HK1.out;have HB14:=zH (aE HB13.out n);have HM14:=zH (HM13.out.drewN n);have HO14:=zH (HO13.out.drewN n))
      |(go_at_call 49;refine(HS9.out _ (HSTR.out n)).mono ?_;rintro e wr ⟨rfl,hb⟩;have HB15:=zH (aA HB14.out hb);have HM15:=zH (HM14.out.below hb);have HO15:=zH (HO14.out.below hb);have HK3:=zH (And.intro (HM15.out.cell (i:=0) (v:= .int .i64 q) rfl) (And.intro (HXV.out _ HB15.out).1 (And.intro (HXV.out _ HB15.out).2 (HM15.out.cell (i:=1) (v:= .slice Ao no co) rfl))));clear hb))
    all_goals
     clear hx0 hk1 hm0 hm1
     have HDR:=zH (HD.out.below HB15.out)
     have HOR:=zH (HO.out.below HB15.out)
     have HPR:=zH (HP.out.below HB15.out)
     have ho0:=HDR.out.o.cell (i:=0) (v:= .int .i64 t) rfl
     have ho1:=HDR.out.o.cell (i:=1) (v:= .int .i64 q) rfl
     have ho2:=HDR.out.o.cell (i:=2) (v:= .slice A2 T.now.op.length c2) rfl
     have ho3:=HDR.out.o.cell (i:=3) (v:= .slice B2 T.past.length d2) rfl
     obtain⟨⟨⟨ha0,ha1,ha2,ha3,ha4,ha5,ha6,ha7⟩,⟨hb2,hb3⟩,⟨hb4,hb5⟩,⟨hb6,hb7⟩⟩,HOUT,HIN,HBE⟩:=lX HDR.out (r8 HOR.out HPR.out)
     go_wp2_with fail
     refine bodyPost_ret_by (aU (b:=w.heap.size+2) rfl rfl rfl HOUT) rfl ⟨A2,_,c2,B2,_,d2,by rw[HTQ.out.1,HTQ.out.2];rfl,HIN.out,HBE.out⟩
   ·obtain⟨hXE,rfl⟩:=HYES.out rfl rfl
    have HXE:=zH hXE
    clear hXE
    go_upto_region 22 with fail
    go_region_held3 (fun w' =>w'.cell? ⟨h,0,none⟩=some (.int .i64 q)∧w'.cell? ⟨w.heap.size,0,none⟩=some (.int .i64 t)∧w'.cell? ⟨w.heap.size+1,1,none⟩=some (.string text)∧w'.cell? ⟨h,1,none⟩=some (.slice Ao no co))
     (first|exact HK3.out|exact HK2.out|exact HK1.out|exact⟨hm0,hx0,hk1,hm1⟩|go_keep)
     (first
      |(go_at_call 67;refine(HTI.out _).mono ?_;rintro e w13 ⟨rfl,hb⟩;have HB13:=zH (aA (aE HB.out 1) hb);have HM13:=zH (aD.below (aD.drew HMR.out) hb);have HO13:=zH ((HOW.out.drewN 1).below hb);have HSTR:Hid (∀n,a7 (w13.drewN n) Ao ys):=(fun n=>uD (HO13.out.drewN n));have HK1:=zH (And.intro (HM13.out.cell (i:=0) (v:= .int .i64 q) rfl) (And.intro (HXV.out _ HB13.out).1 (And.intro (HXV.out _ HB13.out).2 (HM13.out.cell (i:=1) (v:= .slice Ao no co) rfl))));clear hb)
      |(go_at_call 99;refine(HWN.out _).mono ?_;rintro e w14 ⟨rfl,n,rfl⟩;have HK2:Hid ((w13.drewN n).cell? ⟨h,0,none⟩=some (.int .i64 q)∧(w13.drewN n).cell? ⟨w.heap.size,0,none⟩=some (.int .i64 t)∧(w13.drewN n).cell? ⟨w.heap.size+1,1,none⟩=some (.string text)∧(w13.drewN n).cell? ⟨h,1,none⟩=some (.slice Ao no co)):=HK1.out;have HB14:=zH (aE HB13.out n);have HM14:=zH (HM13.out.drewN n);have HO14:=zH (HO13.out.drewN n))
      |(go_at_call 49;refine(HS9.out _ (HSTR.out n)).mono ?_;rintro e wr ⟨rfl,hb⟩;have HB15:=zH (aA HB14.out hb);have HM15:=zH (HM14.out.below hb);have HO15:=zH (HO14.out.below hb);have HK3:=zH (And.intro (HM15.out.cell (i:=0) (v:= .int .i64 q) rfl) (And.intro (HXV.out _ HB15.out).1 (And.intro (HXV.out _ HB15.out).2 (HM15.out.cell (i:=1) (v:= .slice Ao no co) rfl))));clear hb))
    all_goals
     clear hx0 hk1 hm0 hm1
     have HDR:=zH (HD.out.below HB15.out)
     have HOR:=zH (HO.out.below HB15.out)
     have HPR:=zH (HP.out.below HB15.out)
     obtain⟨o',ho'⟩:∃o',Value.slice Ao no co=o' :=⟨_,rfl⟩
     rw[ho'] at HM15 HO15
     have HM:=HM15
     have HYR:Hid (aK wr (w.heap.size+3) o' ys):=HO15.out.base (by have:=HDR.out.lo;have:=HGH.out;omega)
     obtain⟨y,HYE⟩:∃y:St ByteArray,Hid (y=⟨q,ys⟩):=⟨_,rfl⟩
     have HXP:Hid (X=iG T y):=by unfold Hid;rw[HXE.out,HYE.out]
     clear HXE ho' HM15 HO15 HM14 HO14 HM13 HO13 HOW HMR
     have ho1:=HDR.out.o.cell (i:=1) (v:= .int .i64 q) rfl
     have ho2:=HDR.out.o.cell (i:=2) (v:= .slice A2 T.now.op.length c2) rfl
     have ho3:=HDR.out.o.cell (i:=3) (v:= .slice B2 T.past.length d2) rfl
     have HSZR:Hid (w.heap.size+3≤wr.heap.size):=by unfold Hid;have:=HDR.out.o.lt;have:=HDR.out.lo;omega
     have HNOW:Hid (T.now=⟨q,T.now.op⟩):=by unfold Hid;rw[←HTQ.out.2]
     have HPH:Hid (∀k,(Value.slice B2 T.past.length d2).ownBlock=some k→k<h):=fun k hk=>by have:=HLT.out.2 k hk;have:=HGH.out;omega
     have HPL:Hid (T.past.length≤1048576):=hpl
     have HAP:=zH (eC HOR.out HPR.out.row (by decide))
     obtain⟨l,HLE⟩:∃l,Hid (T.past++[(⟨q,T.now.op⟩:St ByteArray)]=l):=⟨_,rfl⟩
     have HLP:Hid (l=T.past++[T.now]):=by unfold Hid;rw[←HLE.out,←HNOW.out]
     have HXL:Hid (X=⟨T.things,⟨q,ys⟩,eD l⟩):=by unfold Hid;rw[HXP.out,HYE.out,HLP.out];rfl
     go_upto_region 24 with fail
     go_upto_region 25 with(at_builtin;refine F7 rfl _ _ rfl (w.heap.size+3) (.slice B2 T.past.length d2) (.slice A2 T.now.op.length c2) vs T.past ⟨q,T.now.op⟩ rfl HPR.out HOR.out rfl HPL.out HSZR.out HAP.out ?_;intro v2 w10 hx2 hg2;rw[HLE.out] at hx2;obtain⟨A3,n3,c3,rfl,hn3,hnc3,hcm3,⟨hp0,hp1⟩,hd11,hp11,hy11,hm11⟩:=CU HDR.out HM.out HYR.out HPR.out HPH.out HGH.out hx2 hg2;have HN3:=zH hn3;have HCM3:=zH hcm3;have HD11:=zH hd11;have HP11:=zH hp11;have HY11:=zH hy11;have HM11:=zH hm11;clear hx2 hg2 hn3 hcm3 hd11 hp11 hy11 hm11 ho1 ho2 ho3)
     obtain⟨w11,hw11⟩:∃w11,w10.setCell ⟨g,3,none⟩ (.slice A3 n3 c3)=w11:=⟨_,rfl⟩
     rw[hw11] at HD11 HP11 HY11 HM11⊢
     clear hw11 hp0 hp1
     obtain⟨Ao,co,hoe,hoc,hom,_⟩:=HY11.out.form
     obtain⟨no,hno⟩:∃no,ys.length=no:=⟨_,rfl⟩
     rw[hno] at hoe
     subst hoe
     have HNO2:=zH hno
     clear hno hoc hom
     have ho3:=HD11.out.o.cell (i:=3) (v:= .slice A3 n3 c3) rfl
     have hn9:n3≤9223372036854775807:=by have:=HCM3.out;unfold maxLen at this;omega
     by_cases hl:10<n3
     ·have hd:decide (10<n3)=true:=decide_eq_true hl
      obtain⟨b3,off3,rfl⟩:∃b3 off3,A3=some ⟨b3,off3,none⟩:=by
       obtain⟨_,_,e,_,_,h6,_⟩:=HP11.out.form
       cases e
       obtain⟨b,off,h,_⟩:=h6 (by have:=HN3.out;omega)
       exact⟨b,off,h⟩
      obtain⟨⟨hq0,hq1⟩,HD12⟩:=HD11.out.put3 (.slice (some ⟨b3,off3+2,none⟩) (n3-1) (c3-1))
      have HP12:=zH (HP11.out.setBox (i:=3) (u:= .slice (some ⟨b3,off3+2,none⟩) (n3-1) (c3-1)) HD11.out.o (by decide) (by decide))
      have HY12:=zH (HY11.out.setBox (i:=3) (u:= .slice (some ⟨b3,off3+2,none⟩) (n3-1) (c3-1)) HD11.out.o (by decide))
      have HM12:=zH (HM11.out.other (a:=g) (i:=3) (Nat.ne_of_lt HGH.out) (.slice (some ⟨b3,off3+2,none⟩) (n3-1) (c3-1)))
      go_upto_region 27 with fail
      obtain⟨w12,hw12⟩:∃w12,w11.setCell ⟨g,3,none⟩ (.slice (some ⟨b3,off3+2,none⟩) (n3-1) (c3-1))=w12:=⟨_,rfl⟩
      rw[hw12] at HD12 HP12 HY12 HM12⊢
      clear hw12 hq0 hq1 ho3 hd HD11 HP11 HY11 HM11
      have hm0:=HM12.out.cell (i:=0) (v:= .int .i64 q) rfl
      have hm1:=HM12.out.cell (i:=1) (v:= .slice Ao no co) rfl
      obtain⟨⟨hp0,hp1,hp2,hp3,hp4,hp5⟩,HD13⟩:=HD12.out.put12 (.int .i64 q) (.slice Ao no co)
      have HP13:=zH (HP12.out.set12 HD12.out.o (.int .i64 q) (.slice Ao no co))
      have HY13:=zH (HY12.out.set12 HD12.out.o (.int .i64 q) (.slice Ao no co))
      go_upto_region 28 with fail
      obtain⟨w13,hw13⟩:∃w13,(w12.setCell ⟨g,1,none⟩ (.int .i64 q)).setCell ⟨g,2,none⟩ (.slice Ao no co)=w13:=⟨_,rfl⟩
      rw[hw13] at HD13 HP13 HY13⊢
      clear hw13 hm0 hm1 hp0 hp1 hp2 hp3 hp4 hp5
      have ho0:=HD13.out.o.cell (i:=0) rfl
      have ho1:=HD13.out.o.cell (i:=1) rfl
      have ho2:=HD13.out.o.cell (i:=2) rfl
      have ho3:=HD13.out.o.cell (i:=3) rfl
      have HTI:Hid (f9 w13 (w.heap.size+3) X Ao no co (some ⟨b3,off3+2,none⟩) (n3-1) (c3-1)):=by
       rw[HXL.out]
       have:=xO (t:=T.things) (y:=⟨q,ys⟩) (show aK w13 (w.heap.size+3) (.slice Ao ys.length co) ys by rw[HNO2.out];exact HY13.out) HP13.out
       obtain⟨b,off,e,h⟩:=this.2 (by have:=HN3.out;omega);cases e;rw[←HN3.out,HNO2.out] at h;exact h
      obtain⟨⟨⟨ha0,ha1,ha2,ha3,ha4,ha5,ha6,ha7⟩,⟨hb2,hb3⟩,⟨hb4,hb5⟩,⟨hb6,hb7⟩⟩,HOUT,HIN,HBE⟩:=lX HD13.out HTI.out
      go_wp2_with fail
      refine bodyPost_ret_by (aU (b:=w.heap.size+2) rfl rfl rfl HOUT) rfl ⟨Ao,_,co,_,_,_,by rw[show X.things=t from(by rw[HXL.out];exact HTQ.out.1),show X.now.known=q from(by rw[HXL.out])];rfl,HIN.out,HBE.out⟩
     ·have hd:decide (10<n3)=false:=decide_eq_false hl
      have HD12:=HD11
      have HP12:=HP11
      have HY12:=HY11
      have HM12:=HM11
      go_upto_region 27 with fail
      obtain⟨w12,hw12⟩:∃w12,w11=w12:=⟨_,rfl⟩
      subst hw12
      clear ho3 hd HD11 HP11 HY11 HM11
      have hm0:=HM12.out.cell (i:=0) (v:= .int .i64 q) rfl
      have hm1:=HM12.out.cell (i:=1) (v:= .slice Ao no co) rfl
      obtain⟨⟨hp0,hp1,hp2,hp3,hp4,hp5⟩,HD13⟩:=HD12.out.put12 (.int .i64 q) (.slice Ao no co)
      have HP13:=zH (HP12.out.set12 HD12.out.o (.int .i64 q) (.slice Ao no co))
      have HY13:=zH (HY12.out.set12 HD12.out.o (.int .i64 q) (.slice Ao no co))
      go_upto_region 28 with fail
      obtain⟨w13,hw13⟩:∃w13,(w11.setCell ⟨g,1,none⟩ (.int .i64 q)).setCell ⟨g,2,none⟩ (.slice Ao no co)=w13:=⟨_,rfl⟩
      rw[hw13] at HD13 HP13 HY13⊢
      clear hw13 hm0 hm1 hp0 hp1 hp2 hp3 hp4 hp5
      have ho0:=HD13.out.o.cell (i:=0) rfl
      have ho1:=HD13.out.o.cell (i:=1) rfl
      have ho2:=HD13.out.o.cell (i:=2) rfl
      have ho3:=HD13.out.o.cell (i:=3) rfl
      have HTI:Hid (f9 w13 (w.heap.size+3) X Ao no co A3 n3 c3):=by
       rw[HXL.out]
       have:=xO (t:=T.things) (y:=⟨q,ys⟩) (show aK w13 (w.heap.size+3) (.slice Ao ys.length co) ys by rw[HNO2.out];exact HY13.out) HP13.out
       have h:=this.1 (by have:=HN3.out;omega);rw[←HN3.out,HNO2.out] at h;exact h
      obtain⟨⟨⟨ha0,ha1,ha2,ha3,ha4,ha5,ha6,ha7⟩,⟨hb2,hb3⟩,⟨hb4,hb5⟩,⟨hb6,hb7⟩⟩,HOUT,HIN,HBE⟩:=lX HD13.out HTI.out
      go_wp2_with fail
      refine bodyPost_ret_by (aU (b:=w.heap.size+2) rfl rfl rfl HOUT) rfl ⟨Ao,_,co,_,_,_,by rw[show X.things=t from(by rw[HXL.out];exact HTQ.out.1),show X.now.known=q from(by rw[HXL.out])];rfl,HIN.out,HBE.out⟩
theorem EP{T:aL}{kind:Int}{text:ByteArray}(h:((kind<0∨1<kind)∧¬(kind=2∧text=⟨#[]⟩∧0<T.past.length))∨(0≤kind∧kind≤1∧fY T.things text=false)):gJ T kind text=none:=by
 unfold gJ cX
 by_cases h2:kind=2
 ·subst h2
  rcases h with⟨_,h⟩|h
  ·rw[if_pos rfl]
   by_cases ht:text=aH.none
   ·rw[if_pos ht]
    have hp:T.past=[]:=Classical.byContradiction fun hn=>h ⟨rfl,ht,List.length_pos_iff.2 hn⟩
    rw[hp]
    rfl
   ·rw[if_neg ht]
  ·omega
 rw[if_neg h2]
 rcases h with⟨h,_⟩|⟨h0,h1,hS⟩
 ·rw[if_neg (by omega),if_neg (by omega)]
 ·have hn:¬aH.isS T.things text=true:=by
   intro e
   rw[show fY T.things text=true from e] at hS
   cases hS
  rw[if_neg hn,if_neg hn]
  split
  ·rfl
  ·split<;>rfl
theorem BS(T:aL)(A B:Option Addr)(n c m d:Nat)(kind:Int)(text:ByteArray)(w:World)(hT:bN w T A n c B m d)(hs:cD T)(hx:text.size≤1048576):
  Calls Tryz.prog 61 #[.agg #[.int .i64 T.things,.int .i64 T.now.known,.slice A n c,.slice B m d],.agg #[.int .i64 kind,.string text]] w (rB (dN T kind text).1 (dN T kind text).2 w):=by
 cases hok:dP T with
 |false=>
  rw[G2 kind text hok]
  exact U3 T A B n c m d kind text w hT hs hx hok
 |true=>
  by_cases hc:((kind<0∨1<kind)∧¬(kind=2∧text=⟨#[]⟩∧0<T.past.length))∨(0≤kind∧kind≤1∧fY T.things text=false)
  ·rw[sZ hok (EP hc)]
   exact VI T A B n c m d kind text w hT hs hx hok hc
  by_cases h2:kind=2∧text=⟨#[]⟩∧0<T.past.length
  ·obtain⟨rfl,rfl,hp⟩:=h2
   obtain⟨X,hX⟩:∃X,gJ T 2 ⟨#[]⟩=some X:=by
    unfold gJ cX
    rw[if_pos rfl,if_pos (show(ByteArray.mk #[])=aH.none from rfl),List.getLast?_eq_getElem?,List.getElem?_eq_getElem (by omega)]
    exact⟨_,rfl⟩
   rw[rJ hok hX]
   exact SN T A B n c m d w hT hs hok X hX
  have h01:0≤kind∧kind≤1:=Classical.byContradiction fun h=>hc (.inl ⟨by omega,h2⟩)
  have hS:fY T.things text=true:=by
   cases h:fY T.things text with
   |true=>rfl
   |false=>exact absurd (.inr ⟨h01.1,h01.2,h⟩) hc
  have hk:kind=0∨kind=1:=by omega
  clear hc h2
  rcases hk with rfl|rfl
  ·cases hd:gJ T 0 text with
   |none=>
    rw[sZ hok hd]
    exact JH T A B n c m d text w hT hs hx hok hS T false (.inl ⟨hd,rfl,rfl⟩)
   |some X=>
    rw[rJ hok hd]
    exact JH T A B n c m d text w hT hs hx hok hS X true (.inr ⟨hd,rfl⟩)
  ·cases hd:gJ T 1 text with
   |none=>
    rw[sZ hok hd]
    exact NA T A B n c m d text w hT hs hx hok hS T false (.inl ⟨hd,rfl,rfl⟩)
   |some X=>
    rw[rJ hok hd]
    exact NA T A B n c m d text w hT hs hx hok hS X true (.inr ⟨hd,rfl⟩)
structure DM (g u:Nat) (W0 w:World):Prop where
 rd:Rd w g u
 gr:W0.grownBy w (some g)
theorem DM.alloc{g u:Nat}{W0 w:World}(h:DM g u W0 w)(o:Obj):DM g u W0 (w.alloc o):=⟨h.rd.alloc o,bB h.gr o⟩
theorem DM.drew{g u:Nat}{W0 w:World}(h:DM g u W0 w):DM g u W0 w.drew:=⟨h.rd.drewN 1,eM h.gr 1⟩
theorem DM.next{g u u' :Nat}{W0 w w' :World}(h:DM g u W0 w)(hr:Rd w' g u')(hg:w.grownBy w' (some g)):DM g u' W0 w' :=⟨hr,h.gr.trans hg⟩
theorem DM.below{g u:Nat}{W0 w w' :World}(h:DM g u W0 w)(hb:Below w.heap.size w w'):DM g u W0 w' :=⟨h.rd.below hb,fU h.gr hb⟩
theorem EU{w:World}{g u h i:Nat}{v:Value}(hr:Rd w g u)(hA:g<h):Rd (w.setCell ⟨h,i,none⟩ v) g u:=by
 obtain⟨A,c,zs,p,h1,h2,h3,h4,h5,h6⟩:=hr
 have hg:w.grownBy (w.setCell ⟨h,i,none⟩ v) (some h):=gE (World.grownBy.refl w _) i v
 refine⟨A,c,zs,p,?_,(fun hp=>(h2.grown hg (fun ad ha e=>by have:=h6 ad hp ha;injection e;omega):cB .u8 (w.setCell ⟨h,i,none⟩ v) A zs) hp),h3,h4,h5,h6⟩
 rw[Below.heap_setCell w ⟨h,i,none⟩ v g (fun e=>by simp only at e;omega)];exact h1
theorem lM{a w:World}{row:Option Nat}{b i:Nat}{v:Value}(h:a.grownBy w row)(hb:a.heap.size≤b):a.grownBy (w.setCell ⟨b,i,none⟩ v) row:=
 sP h (gE (World.grownBy.refl w (some b)) i v) (fun k e=>by cases e;exact hb)
theorem DM.set{g u h i:Nat}{W0 w:World}{v:Value}(hm:DM g u W0 w)(hh:W0.heap.size≤h)(hg:g<W0.heap.size):DM g u W0 (w.setCell ⟨h,i,none⟩ v):=⟨EU hm.rd (by omega),lM hm.gr hh⟩
theorem DM.box{g u:Nat}{W0 w:World}{b:Nat}{T:TypeId}{cs:List Value}(h:DM g u W0 w)(hb:aD W0 b T cs)(hne:b≠g):aD w b T cs:=hb.grownO h.gr (fun k e=>by cases e;exact fun e=>hne e.symm)
def eZ(w:World)(b:Nat):Prop:=b<w.heap.size∧∀k:Int,0≤k→k<7→∃x:Int,w.cell? ⟨b,k.toNat,none⟩=some (.int .i64 x)
theorem CG{k:Int}(h0:0≤k)(hk:k<7):∃x:Int,∀h,[Value.int .i64 0,.int .i64 0,.int .i64 0,.int .i64 1,.int .i64 1,.int .i64 1,.int .i64 2][k.toNat]'h= .int .i64 x:=by
 have h5:k=0∨k=1∨k=2∨k=3∨k=4∨k=5∨k=6:=by omega
 rcases h5 with rfl|rfl|rfl|rfl|rfl|rfl|rfl<;>exact⟨_,fun _=>rfl⟩
theorem eZ.new(w:World):eZ (w.alloc (.cells #[.int .i64 0,.int .i64 0,.int .i64 0,.int .i64 1,.int .i64 1,.int .i64 1,.int .i64 2] 3)) w.heap.size:=by
 refine⟨by rw[World.size_alloc];exact Nat.lt_succ_self _,fun k h0 hk=> ?_⟩
 obtain⟨x,hx⟩:=CG h0 hk
 refine⟨x,?_⟩
 rw[cell_of_row _ _ _ _ _ _ (heap_alloc_new w _)]
 have hlt:k.toNat<7:=by omega
 rw[List.getElem?_toArray,List.getElem?_eq_getElem hlt,hx hlt]
theorem eZ.alloc{w:World}{b:Nat}(h:eZ w b)(o:Obj):eZ (w.alloc o) b:=⟨Nat.lt_of_lt_of_le h.1 (by rw[World.size_alloc];exact Nat.le_succ _),fun k h0 hk=>by
 obtain⟨x,hx⟩:=h.2 k h0 hk
 exact⟨x,by rw[World.cell?_alloc_lt _ _ _ h.1];exact hx⟩⟩
theorem eZ.drew{w:World}{b:Nat}(h:eZ w b):eZ w.drew b:=h
theorem eZ.grown{w w' :World}{b g:Nat}(h:eZ w b)(hg:w.grownBy w' (some g))(hne:b≠g):eZ w' b:=⟨Nat.lt_of_lt_of_le h.1 hg.size,fun k h0 hk=>by
 obtain⟨x,hx⟩:=h.2 k h0 hk
 exact⟨x,hg.cell hx (by simp only[ne_eq,Option.some.injEq];exact hne)⟩⟩
theorem dL.same{w:World}{lo n c m d:Nat}{T:aL}{A B:Option Addr}(h:dL w lo T A n c B m d)(t k:Int):dL w lo ⟨t,⟨k,T.now.op⟩,T.past⟩ A n c B m d:=fun w2 hk=>by
 have:=h w2 hk
 exact⟨this.hn,this.hc,this.hm,this.hA,this.pn,this.pc,this.pm,this.hB⟩
theorem cD.same{T:aL}(h:cD T)(t k:Int):cD ⟨t,⟨k,T.now.op⟩,T.past⟩:=⟨h.op,h.past,h.txt,h.ops⟩
theorem BU(k:Int)(A:Option Addr)(n c:Nat)(xs:List ByteArray)(w:World)(hn:n=xs.length)(hc:n≤c)(hl:n≤1048576)(hA:a7 w A xs):
  Calls Tryz.prog 91 #[.agg #[.int .i64 k,.slice A n c]] w fun e w' =>∃v,e= .returned (.agg #[.int .i64 k,v])∧aK w' w.heap.size v xs∧Below w.heap.size w w' :=by
 subst hn
 have HX:Hid (aD ((w.alloc (.cells #[.int .i64 k,.slice A xs.length c] 30)).alloc (.cells #[.int .i64 0,.slice none 0 0] 30)) w.heap.size 30 [.int .i64 k,.slice A xs.length c]):=(aD.new w _ [.int .i64 k,.slice A xs.length c]).alloc _
 have HZ:Hid (aD ((w.alloc (.cells #[.int .i64 k,.slice A xs.length c] 30)).alloc (.cells #[.int .i64 0,.slice none 0 0] 30)) (w.heap.size+1) 30 [.int .i64 0,.slice none 0 0]):=by
  have:=aD.new (w.alloc (.cells #[.int .i64 k,.slice A xs.length c] 30)) 30 [.int .i64 0,.slice none 0 0]
  rw[World.size_alloc] at this
  exact this
 have HB:Hid (Below w.heap.size w ((w.alloc (.cells #[.int .i64 k,.slice A xs.length c] 30)).alloc (.cells #[.int .i64 0,.slice none 0 0] 30))):=((Below.refl _ _).alloc (Nat.le_refl _) _).alloc (by rw[World.size_alloc];omega) _
 have HA:=zH (hA.below HB.out)
 have HL:Hid (([]:List ByteArray).length+xs.length≤4194304):=by unfold Hid;simp;omega
 clear hA
 go_enter Tryz.func91,Tryz.ntmps91
 go_upto_region 1 with fail
 obtain⟨W0,hW0⟩:∃W,(w.alloc (.cells #[.int .i64 k,.slice A xs.length c] 30)).alloc (.cells #[.int .i64 0,.slice none 0 0] 30)=W:=⟨_,rfl⟩
 rw[hW0] at HX HZ HB HA⊢
 clear hW0
 have hc0:=HX.out.cell (i:=0) (v:= .int .i64 k) rfl
 have hc1:=HX.out.cell (i:=1) (v:= .slice A xs.length c) rfl
 have HA0:Hid (a7 W0.drew A xs):=HA.out.drewN 1
 have HO0:Hid (aK W0.drew W0.heap.size (.slice none 0 0) []):=aK.nil _ _
 have HS0:Hid (W0.heap.size≤W0.drew.heap.size):=Nat.le_refl _
 have HF:Hid (∀(w1:World) (v1:Value),aK w1 W0.heap.size v1 ([]++xs)→W0.drew.grownBy w1 (Value.slice none 0 0).ownBlock→
   ∃A1 c1,v1= .slice A1 xs.length c1∧aD w1 w.heap.size 30 [.int .i64 k,.slice A xs.length c]∧((w1.cell? ⟨w.heap.size+1,0,none⟩=some (.int .i64 0)∧w1.cell? ⟨w.heap.size+1,1,none⟩=some (.slice none 0 0)∧w1.frozen? ⟨w.heap.size+1,0,none⟩=false∧w1.frozen? ⟨w.heap.size+1,1,none⟩=false)∧
    ((w1.setCell ⟨w.heap.size+1,0,none⟩ (.int .i64 k)).cell? ⟨w.heap.size+1,1,none⟩=some (.slice none 0 0)∧(w1.setCell ⟨w.heap.size+1,0,none⟩ (.int .i64 k)).frozen? ⟨w.heap.size+1,1,none⟩=false))∧
    aD ((w1.setCell ⟨w.heap.size+1,0,none⟩ (.int .i64 k)).setCell ⟨w.heap.size+1,1,none⟩ (.slice A1 xs.length c1)) w.heap.size 30 [.int .i64 k,.slice A xs.length c]∧
    Hid (aD ((w1.setCell ⟨w.heap.size+1,0,none⟩ (.int .i64 k)).setCell ⟨w.heap.size+1,1,none⟩ (.slice A1 xs.length c1)) (w.heap.size+1) 30 [.int .i64 k,.slice A1 xs.length c1])∧
    aK ((w1.setCell ⟨w.heap.size+1,0,none⟩ (.int .i64 k)).setCell ⟨w.heap.size+1,1,none⟩ (.slice A1 xs.length c1)) w.heap.size (.slice A1 xs.length c1) xs∧Below w.heap.size w ((w1.setCell ⟨w.heap.size+1,0,none⟩ (.int .i64 k)).setCell ⟨w.heap.size+1,1,none⟩ (.slice A1 xs.length c1))):=fun w1 v1 h1 hg=>by
  obtain⟨A1,c1,rfl,_⟩:=h1.form
  have hx:aD w1 w.heap.size 30 [.int .i64 k,.slice A xs.length c]:=(aD.drew HX.out).grownO hg (fun j e=>by cases e)
  have hz:aD w1 (w.heap.size+1) 30 [.int .i64 0,.slice none 0 0]:=(aD.drew HZ.out).grownO hg (fun j e=>by cases e)
  have hzl:=HZ.out.lt
  obtain⟨h2,h3,h4⟩:=hz.store2 (.int .i64 k) (.slice A1 xs.length c1)
  have hb:Below w.heap.size w w1:=(aE HB.out 1).grown hg HB.out.size fun j e=>by cases e
  have hset:∀(W:World) (i:Nat) (v:Value),aX W0.heap.size W (W.setCell ⟨w.heap.size+1,i,none⟩ v):=fun W i v=>aX.set hzl
  exact⟨A1,c1,rfl,hx,⟨h2,h3⟩,hx.other2 (by omega) _ _,h4,(h1.keep ((hset w1 0 _).trans (hset _ 1 _) (Nat.le_refl _))).base HB.out.size,fN hb (by omega) _ _⟩
 go_region_held3 (fun w' =>w'.cell? ⟨w.heap.size,0,none⟩=some (.int .i64 k)∧w'.cell? ⟨w.heap.size,1,none⟩=some (.slice A xs.length c))
  (first|exact HK2.out|exact HK1.out|exact⟨hc0,hc1⟩|go_keep)
  (first
   |(refine d0 rfl _ _ rfl W0.heap.size (.slice none 0 0) [] xs rfl HO0.out A xs.length c rfl rfl hc HA0.out HL.out HS0.out ?_;intro v1 w1 ho1 hg1;obtain⟨A1,c1,rfl,hx1,⟨⟨hz0,hz1,hz2,hz3⟩,⟨hz4,hz5⟩⟩,hx2,HOUT,hown,hbel⟩:=HF.out w1 v1 ho1 hg1;have HK1:=zH (And.intro (hx1.cell (i:=0) (v:= .int .i64 k) rfl) (hx1.cell (i:=1) (v:= .slice A xs.length c) rfl));have HK2:=zH (And.intro (hx2.cell (i:=0) (v:= .int .i64 k) rfl) (hx2.cell (i:=1) (v:= .slice A xs.length c) rfl));have HFIN:=zH (And.intro hown hbel);clear ho1 hg1 hx1 hx2 hown hbel))
 all_goals
  go_wp2_with fail
  refine bodyPost_ret_by (uY (b:=w.heap.size+1) rfl rfl HOUT) rfl ⟨_,rfl,HFIN.out⟩
end Go.Proofs.YtfhjcacfchkdpaaGreatDoor
