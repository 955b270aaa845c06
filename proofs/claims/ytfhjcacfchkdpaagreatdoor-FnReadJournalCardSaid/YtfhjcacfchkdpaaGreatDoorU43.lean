/-
  What the proofs of this seat's statements share (DrwT, TlkW, DrwJ).
-/
import Derived.Maps.AppendAt
import Derived.Test.YtfhjcacfchkdpaaGreatDoorU28
import Derived.Test.YtfhjcacfchkdpaaGreatDoorU42
set_option maxRecDepth 100000
set_option maxHeartbeats 32000000
namespace Go.Proofs.YtfhjcacfchkdpaaGreatDoor
open Go.RowKit
def RU(n:Int)(g u:Nat)(w:World)(e:Ending)(w' :World):Prop:=∃(T:aL) (A:Option Addr) (nn c:Nat) (B:Option Addr) (m d:Nat),e= .returned (.agg #[.int .i64 T.things,.int .i64 T.now.known,.slice A nn c,.slice B m d])∧
 dL w' w.heap.size T A nn c B m d∧cD T∧(n=0→dP T=true)∧Rd w' g u∧w.grownBy w' (some g)
theorem PI{g:Nat}{n:Int}(h:n=0)(w:World):Calls Tryz.prog 47 #[.pointer (some ⟨g,0,none⟩),.int .i64 n] w fun e w' =>e= .returned (.bool false)∧w=w' :=by
 subst h
 go_enter Tryz.func47,Tryz.ntmps47
 go_wp2_with fail
 go_ret
 exact⟨rfl,rfl⟩
def J7(n:Int)(g u:Nat)(w:World)(e:Ending)(w' :World):Prop:=∃b:Bool,e= .returned (.bool b)∧(n=0→b=false)∧Rd w' g u∧w.grownBy w' (some g)
theorem E4{g u:Nat}{n:Int}(w:World)(hn:n≤1048576)(hn0:0≤n)(hu:u≤1048576)(hR:Rd w g u):Calls Tryz.prog 47 #[.pointer (some ⟨g,0,none⟩),.int .i64 n] w (J7 n g (u+1) w):=by
 by_cases h:n=0
 ·refine(PI h w).mono ?_
  rintro e w' ⟨rfl,rfl⟩
  exact⟨false,rfl,fun _=>rfl,hR.more (by omega),World.grownBy.refl _ _⟩
 ·refine(tB g u n w hn hn0 hu hR).mono ?_
  rintro e w' ⟨b,rfl,hr,hg⟩
  exact⟨b,rfl,fun e=>absurd e h,hr,hg⟩
theorem tY{g u lo:Nat}{w X:World}{T:aL}{A B:Option Addr}{n c m d:Nat}(hm:DM g u w X)(hg:g<w.heap.size)(hin:dL X lo T A n c B m d)(hlo:w.heap.size<lo)(a b r q:Value):
  dL ((((X.setCell ⟨w.heap.size,0,none⟩ a).setCell ⟨w.heap.size,1,none⟩ b).setCell ⟨w.heap.size,2,none⟩ r).setCell ⟨w.heap.size,3,none⟩ q) w.heap.size T A n c B m d∧
  Rd ((((X.setCell ⟨w.heap.size,0,none⟩ a).setCell ⟨w.heap.size,1,none⟩ b).setCell ⟨w.heap.size,2,none⟩ r).setCell ⟨w.heap.size,3,none⟩ q) g u∧
  w.grownBy ((((X.setCell ⟨w.heap.size,0,none⟩ a).setCell ⟨w.heap.size,1,none⟩ b).setCell ⟨w.heap.size,2,none⟩ r).setCell ⟨w.heap.size,3,none⟩ q) (some g):=by
 have hset:∀(W:World) (i:Nat) (v:Value),aX lo W (W.setCell ⟨w.heap.size,i,none⟩ v):=fun W i v=>aX.set hlo
 have hk:=(((hset X 0 a).trans (hset _ 1 b) (Nat.le_refl _)).trans (hset _ 2 r) (Nat.le_refl _)).trans (hset _ 3 q) (Nat.le_refl _)
 have h4:=(((hm.set (h:=w.heap.size) (i:=0) (v:=a) (Nat.le_refl _) hg).set (h:=w.heap.size) (i:=1) (v:=b) (Nat.le_refl _) hg).set (h:=w.heap.size) (i:=2) (v:=r) (Nat.le_refl _) hg).set (h:=w.heap.size) (i:=3) (v:=q) (Nat.le_refl _) hg
 exact⟨(hin.keep hk).base (by omega),h4.rd,h4.gr⟩
def BV(g u h s:Nat)(w wr:World)(T:aL)(A:Option Addr)(n c:Nat)(B:Option Addr)(m d:Nat)(s7 s8:Value)(wx:World):Prop:=
 ∃(b7:Nat) (X:aL) (b:Bool) (A2:Option Addr) (n2 c2:Nat) (B2:Option Addr) (m2 d2:Nat),s7= .pointer (some ⟨b7,0,none⟩)∧s8= .bool b∧dP X=true∧cD X∧wr.heap.size≤b7∧Hid (aD wx b7 33 [.int .i64 X.things,.int .i64 X.now.known,.slice A2 n2 c2,.slice B2 m2 d2])∧
  Hid (f9 wx (h+1) X A2 n2 c2 B2 m2 d2)∧Hid (TV wx h T A n c B m d)∧Hid (aD wx s 33 [.int .i64 0,.int .i64 0,.slice none 0 0,.slice none 0 0])∧Hid (DM g u w wx)
theorem DM.fresh{g u:Nat}{W0 w w' :World}{row:Option Nat}(h:DM g u W0 w)(hg:w.grownBy w' row)(hr:∀k,row=some k→W0.heap.size≤k)(hlt:g<W0.heap.size):DM g u W0 w' :=by
 refine⟨?_,sP h.gr hg hr⟩
 obtain⟨A,c,zs,p,a1,a2,a3,a4,a5,a6⟩:=h.rd
 have hgl:g<w.heap.size:=(Array.getElem?_eq_some_iff.1 a1).1
 refine⟨A,c,zs,p,(hg.block g hgl (fun e=>by have:=hr g e.symm;omega)).trans a1,fun hp=>a2.grown hg (fun ad ha e=>by have:=a6 ad hp ha;have:=hr ad.block e.symm;omega) hp,a3,a4,a5,a6⟩
theorem y8{g u h s lo:Nat}{w wr w6:World}{T X:aL}{A B A2 B2:Option Addr}{n c m d n2 c2 m2 d2:Nat}(hg:g<w.heap.size)(hwh:w.heap.size≤h)(hws:w.heap.size≤s)(hwr:w.heap.size≤wr.heap.size)(hm:DM g u w w6)(hG:wr.grownBy w6 (some g))(hv:TV wr h T A n c B m d)
  (hS:aD wr s 33 [.int .i64 0,.int .i64 0,.slice none 0 0,.slice none 0 0]) (hx1:dP X=true) (hx2:cD X) (hown:f9 w6 lo X A2 n2 c2 B2 m2 d2) (hlo:h+1≤lo) (b:Bool):
  BV g u h s w wr T A n c B m d (.pointer (some ⟨w6.heap.size,0,none⟩)) (.bool b) (w6.alloc (.cells #[.int .i64 X.things,.int .i64 X.now.known,.slice A2 n2 c2,.slice B2 m2 d2] 33))∧
  ∀b7,aD w6 b7 33 [.int .i64 0,.int .i64 0,.slice none 0 0,.slice none 0 0]→wr.heap.size≤b7→b7<lo→BV g u h s w wr T A n c B m d (.pointer (some ⟨b7,0,none⟩)) (.bool b) ((((w6.setCell ⟨b7,0,none⟩ (.int .i64 X.things)).setCell ⟨b7,1,none⟩ (.int .i64 X.now.known)).setCell ⟨b7,2,none⟩ (.slice A2 n2 c2)).setCell ⟨b7,3,none⟩ (.slice B2 m2 d2)):=by
 refine⟨⟨_,X,b,A2,n2,c2,B2,m2,d2,rfl,rfl,hx1,hx2,hG.size,aD.new w6 33 [.int .i64 X.things,.int .i64 X.now.known,.slice A2 n2 c2,.slice B2 m2 d2],(hown.base hlo).keep (sL _),hv.grown (bB hG _) (by omega),hS.grownO (bB hG _) (fun j e=>by cases e;omega),hm.alloc _⟩,fun b7 hb h1 h2=> ?_⟩
 have hset:∀(W:World) (i:Nat) (v:Value),aX lo W (W.setCell ⟨b7,i,none⟩ v):=fun W i v=>aX.set h2
 have hk:=(((hset w6 0 (.int .i64 X.things)).trans (hset _ 1 (.int .i64 X.now.known)) (Nat.le_refl _)).trans (hset _ 2 (.slice A2 n2 c2)) (Nat.le_refl _)).trans (hset _ 3 (.slice B2 m2 d2)) (Nat.le_refl _)
 have hG4:=lM (b:=b7) (i:=3) (v:= .slice B2 m2 d2) (lM (b:=b7) (i:=2) (v:= .slice A2 n2 c2) (lM (b:=b7) (i:=1) (v:= .int .i64 X.now.known) (lM (b:=b7) (i:=0) (v:= .int .i64 X.things) hG h1) h1) h1) h1
 exact⟨b7,X,b,A2,n2,c2,B2,m2,d2,rfl,rfl,hx1,hx2,h1,(hb.store4 _ _ _ _).2.2.2.2,(hown.keep hk).base hlo,hv.grown hG4 (by omega),hS.grownO hG4 (fun j e=>by cases e;omega),((((hm.set (by omega) hg).set (by omega) hg).set (by omega) hg).set (by omega) hg)⟩
theorem VX{g u h s:Nat}{w wx:World}{T X:aL}{A B A2 B2:Option Addr}{n c m d n2 c2 m2 d2:Nat}(hg:g<w.heap.size)(hwh:w.heap.size≤h)(hsh:s≠h)(hv:TV wx h T A n c B m d)(hown:f9 wx (h+1) X A2 n2 c2 B2 m2 d2)(hS:aD wx s 33 [.int .i64 0,.int .i64 0,.slice none 0 0,.slice none 0 0])(hm:DM g u w wx):
  TV ((((wx.setCell ⟨h,0,none⟩ (.int .i64 X.things)).setCell ⟨h,1,none⟩ (.int .i64 X.now.known)).setCell ⟨h,2,none⟩ (.slice A2 n2 c2)).setCell ⟨h,3,none⟩ (.slice B2 m2 d2)) h X A2 n2 c2 B2 m2 d2∧
  aD ((((wx.setCell ⟨h,0,none⟩ (.int .i64 X.things)).setCell ⟨h,1,none⟩ (.int .i64 X.now.known)).setCell ⟨h,2,none⟩ (.slice A2 n2 c2)).setCell ⟨h,3,none⟩ (.slice B2 m2 d2)) s 33 [.int .i64 0,.int .i64 0,.slice none 0 0,.slice none 0 0]∧
  DM g u w ((((wx.setCell ⟨h,0,none⟩ (.int .i64 X.things)).setCell ⟨h,1,none⟩ (.int .i64 X.now.known)).setCell ⟨h,2,none⟩ (.slice A2 n2 c2)).setCell ⟨h,3,none⟩ (.slice B2 m2 d2)):=by
 have hset:∀(W:World) (i:Nat) (v:Value),aX (h+1) W (W.setCell ⟨h,i,none⟩ v):=fun W i v=>aX.set (Nat.lt_succ_self _)
 have hk:=(((hset wx 0 (.int .i64 X.things)).trans (hset _ 1 (.int .i64 X.now.known)) (Nat.le_refl _)).trans (hset _ 2 (.slice A2 n2 c2)) (Nat.le_refl _)).trans (hset _ 3 (.slice B2 m2 d2)) (Nat.le_refl _)
 exact⟨⟨(hv.box.store4 _ _ _ _).2.2.2.2,hown.keep hk⟩,hS.other4 (fun e=>hsh e.symm) _ _ _ _,((((hm.set hwh hg).set hwh hg).set hwh hg).set hwh hg)⟩
theorem EO{g u h s i:Nat}{w wx:World}{v:Value}{X:aL}{A2 B2:Option Addr}{n2 c2 m2 d2:Nat}(hg:g<w.heap.size)(hwh:w.heap.size≤h)(hsh:s≠h)(hin:dL wx (h+1) X A2 n2 c2 B2 m2 d2)(hS:aD wx s 33 [.int .i64 0,.int .i64 0,.slice none 0 0,.slice none 0 0])(hm:DM g u w wx):
  dL (wx.setCell ⟨h,i,none⟩ v) (h+1) X A2 n2 c2 B2 m2 d2∧aD (wx.setCell ⟨h,i,none⟩ v) s 33 [.int .i64 0,.int .i64 0,.slice none 0 0,.slice none 0 0]∧DM g u w (wx.setCell ⟨h,i,none⟩ v):=
 ⟨hin.keep (aX.set (Nat.lt_succ_self _)),hS.other (fun e=>hsh e.symm) _,hm.set hwh hg⟩
theorem PX(g u:Nat)(n:Int)(w:World)(hn:n≤1048576)(hn0:0≤n)(hu:u≤700000)(hR:Rd w g u):
  Calls Tryz.prog 46 #[.pointer (some ⟨g,0,none⟩),.int .i64 n] w (RU n g (u+300) w):=by
 have hlt:=hR.lt
 have HS:Hid (aD (w.alloc (.cells #[.int .i64 0,.int .i64 0,.slice none 0 0,.slice none 0 0] 33)) w.heap.size 33 [.int .i64 0,.int .i64 0,.slice none 0 0,.slice none 0 0]):=aD.new w _ [.int .i64 0,.int .i64 0,.slice none 0 0,.slice none 0 0]
 have HM:Hid (DM g u w (w.alloc (.cells #[.int .i64 0,.int .i64 0,.slice none 0 0,.slice none 0 0] 33))):=(DM.start hR).alloc _
 have HODD:Hid (∀(W:World) (v:Nat),v≤1048576→Rd W g v→Calls Tryz.prog 47 #[.pointer (some ⟨g,0,none⟩),.int .i64 n] W (J7 n g (v+1) W)):=fun W v hv h=>E4 W hn hn0 hv h
 clear hR
 go_enter Tryz.func46,Tryz.ntmps46
 go_upto_region 1 with fail
 obtain⟨W0,hW0⟩:∃W,w.alloc (.cells #[.int .i64 0,.int .i64 0,.slice none 0 0,.slice none 0 0] 33)=W:=⟨_,rfl⟩
 rw[hW0] at HS HM⊢
 clear hW0
 have hs0:=HS.out.lt
 go_wp2_with fail
 refine(cE g u 5 _ (by omega) (by omega) (by omega) (HM.out.rd.alloc _)).mono ?_
 rintro e w1 ⟨k,rfl,hk0,hk1,hr,hg⟩
 have hk5:=hk1 (by omega)
 obtain⟨x,hx,hcell⟩:=RP [1,2,2,2,3] hg (by omega) hk0 (hk1 (by omega))
 have hx3:1≤x∧x≤3:=by simp only[List.mem_cons,List.not_mem_nil,or_false] at hx;omega
 have HM1:=zH ((HM.out.alloc (.cells #[.int .i64 1,.int .i64 2,.int .i64 2,.int .i64 2,.int .i64 3] 3)).next hr hg)
 have HS1:=zH ((HS.out.alloc (.cells #[.int .i64 1,.int .i64 2,.int .i64 2,.int .i64 2,.int .i64 3] 3)).grownO hg (fun j e=>by cases e;omega))
 clear hr hg hk1 hx
 go_wp2_with fail
 refine(QN x _).mono ?_
 rintro e w2 ⟨rfl,hb⟩
 rw[show yU x=x by unfold yU;rw[if_pos hx3],show yW x=aJ x by unfold yW;rw[if_pos hx3]]
 have hok:dP ⟨x,⟨aJ x,[]⟩,[]⟩=true:=by
  have:=(U8 hx3.1 hx3.2).1
  unfold FB at this
  rw[if_pos hx3] at this
  exact this
 obtain⟨q,hq⟩:∃q,aJ x=q:=⟨_,rfl⟩
 rw[hq] at hok⊢
 obtain⟨h,hh⟩:∃h,w2.heap.size=h:=⟨_,rfl⟩
 have HV2:Hid (TV (w2.alloc (.cells #[.int .i64 x,.int .i64 q,.slice none 0 0,.slice none 0 0] 33)) h ⟨x,⟨q,[]⟩,[]⟩ none 0 0 none 0 0):=by
  rw[←hh]
  exact⟨aD.new w2 _ [.int .i64 x,.int .i64 q,.slice none 0 0,.slice none 0 0],f9.new x q⟩
 have HM2:=zH ((HM1.out.below hb).alloc (.cells #[.int .i64 x,.int .i64 q,.slice none 0 0,.slice none 0 0] 33))
 have HS2:=zH ((HS1.out.below hb).alloc (.cells #[.int .i64 x,.int .i64 q,.slice none 0 0,.slice none 0 0] 33))
 have hwh:w.heap.size<h:=by rw[←hh];exact(HS1.out.below hb).lt
 clear hb hcell hq HM1 HS1 HM HS hx3 hk0 hk5
 go_upto_region 2 with fail
 obtain⟨X,hX⟩:∃W,w2.alloc (.cells #[.int .i64 x,.int .i64 q,.slice none 0 0,.slice none 0 0] 33)=W:=⟨_,rfl⟩
 rw[hX] at HV2 HM2 HS2⊢
 try rw[hh]
 clear hX hh
 go_wp2_with fail
 refine(cE g _ 5 _ (by omega) (by omega) (by omega) HM2.out.rd).mono ?_
 rintro e w3 ⟨k0,rfl,hk0,hk1,hr,hg⟩
 have hk5:=hk1 (by omega)
 have HV3:=zH (HV2.out.grown hg (by omega))
 have HM3:=zH (HM2.out.next hr hg)
 have HS3:=zH (HS2.out.grownO hg (fun j e=>by cases e;omega))
 obtain⟨kk,rfl⟩:∃kk:Nat,k0=(kk:Int):=⟨k0.toNat,by omega⟩
 clear hr hg hk1 HV2 HM2 HS2
 go_wp2_with fail
 go_loopw [6] (fun i wr=>∃(k:Nat) (T:aL) (A:Option Addr) (n1 c1:Nat) (B:Option Addr) (m1 d1:Nat),k≤4∧i= .int .i64 k∧Hid (dP T=true∧cD T)∧Hid (TV wr h T A n1 c1 B m1 d1)∧Hid (aD wr w.heap.size 33 [.int .i64 0,.int .i64 0,.slice none 0 0,.slice none 0 0])∧Hid (DM g (u+2+51*(4-k)) w wr)) (fun i _=>(Go.RowKit.intOf i).toNat)
 case atStart=>exact⟨kk,_,_,_,_,_,_,_,by omega,rfl,⟨hok,lQ hok⟩,HV3,HS3,HM3.out.more (by omega)⟩
 case round=>
  obtain⟨k,T,A,n1,c1,B,m1,d1,hk,rfl,HT,HV,HS,HM⟩:=hrel
  have hc0:=HV.out.box.cell (i:=0) (v:= .int .i64 T.things) rfl
  have hc1:=HV.out.box.cell (i:=1) (v:= .int .i64 T.now.known) rfl
  have hc2:=HV.out.box.cell (i:=2) (v:= .slice A n1 c1) rfl
  have hc3:=HV.out.box.cell (i:=3) (v:= .slice B m1 d1) rfl
  have hwr:w.heap.size≤wr.heap.size:=HM.out.gr.size
  by_cases hpos:0<k
  ·have hd:decide ((0:Int)<(k:Int))=true:=decide_eq_true (by omega)
   obtain⟨v,hv⟩:∃v,u+2+51*(4-k)=v:=⟨_,rfl⟩
   have hvb:v≤701000:=by omega
   rw[hv] at HM
   have HVE:Hid (v+51=u+2+51*(4-(k-1))):=by unfold Hid;omega
   have HDEED:Hid (∀W,Rd W g v→Calls Tryz.prog 88 #[.pointer (some ⟨g,0,none⟩),.agg #[.int .i64 T.things,.int .i64 T.now.known,.slice A n1 c1,.slice B m1 d1]] W (FJ g (v+50) W)):=fun W hW=>FD g v _ _ _ _ A B n1 c1 m1 d1 rfl rfl W (by omega) hW
   have HDO:Hid (∀(W:World) (kd:Int) (tx:ByteArray),bN W T A n1 c1 B m1 d1→tx.size≤100→Calls Tryz.prog 61 #[.agg #[.int .i64 T.things,.int .i64 T.now.known,.slice A n1 c1,.slice B m1 d1],.agg #[.int .i64 kd,.string tx]] W (rB (dN T kd tx).1 (dN T kd tx).2 W)):=fun W kd tx hW hx=>BS T A B n1 c1 m1 d1 kd tx W hW HT.out.2 (by omega)
   have hhr:h<wr.heap.size:=HV.out.box.lt
   clear hv
   go_upto_region 5 with fail
   go_cut [7,8] from 17 to 30 (fun s7 s8 wx=>BV g (v+50) h w.heap.size w wr T A n1 c1 B m1 d1 s7 s8 wx)
   case first=>
    go_region_held3 (fun w' =>w'.cell? ⟨h,0,none⟩=some (.int .i64 T.things)∧w'.cell? ⟨h,1,none⟩=some (.int .i64 T.now.known)∧w'.cell? ⟨h,2,none⟩=some (.slice A n1 c1)∧w'.cell? ⟨h,3,none⟩=some (.slice B m1 d1))
     (first|exact HK3.out|exact HK2.out|exact HK1.out|exact⟨hc0,hc1,hc2,hc3⟩|go_keep)
     (first
      |(go_at_call 88;refine(HDEED.out _ ?_).mono ?_;(first|exact HM.out.rd.drewN 1|exact(HM.out.rd.alloc _).drewN 1);rintro e w5 ⟨kd,tx,rfl,hsz,hr,hg⟩;have hG5:wr.grownBy w5 (some g):=(by first|exact(eM (World.grownBy.refl wr (some g)) 1).trans hg|exact(bB (eM (World.grownBy.refl wr (some g)) 1) _).trans hg);(first|have HZ5:Hid (aD w5 wr.heap.size 33 [.int .i64 0,.int .i64 0,.slice none 0 0,.slice none 0 0]):=(aD.new wr.drew 33 [.int .i64 0,.int .i64 0,.slice none 0 0,.slice none 0 0]).grownO hg (fun j e=>by cases e;simp only[World.drew];omega)|skip);have HM5:Hid (DM g (v+50) w w5):=⟨hr,HM.out.gr.trans hG5⟩;have HV5:=zH (HV.out.grown hG5 (by omega));have HG5:=zH hG5;have HK1:=zH (And.intro (HV5.out.box.cell (i:=0) (v:= .int .i64 T.things) rfl) (And.intro (HV5.out.box.cell (i:=1) (v:= .int .i64 T.now.known) rfl) (And.intro (HV5.out.box.cell (i:=2) (v:= .slice A n1 c1) rfl) (HV5.out.box.cell (i:=3) (v:= .slice B m1 d1) rfl))));clear hr hg hG5)
      |(go_at_call 61;have HZQ:=HZ5;refine(HDO.out w5 kd tx ?_ hsz).mono ?_;(exact HV5.out.own.1.at_);rintro e w6 ⟨A2,n2,c2,B2,m2,d2,rfl,hown,hb⟩;obtain⟨hx1,_,hx3⟩:=xJ kd tx HT.out.1;generalize dN T kd tx=XB at hown hx1 hx3⊢;have hG6:wr.grownBy w6 (some g):=fU HG5.out hb;have hM6:DM g (v+50) w w6:=HM5.out.below hb;have hs5:wr.heap.size≤w5.heap.size:=HG5.out.size;have hfin:=y8 hlt (by omega) (Nat.le_refl _) hwr hM6 hG6 HV.out HS.out hx1 hx3 hown (by omega) XB.2;have HV6:=zH (HV.out.grown hG6 (by omega));have HK2:=zH (And.intro (HV6.out.box.cell (i:=0) (v:= .int .i64 T.things) rfl) (And.intro (HV6.out.box.cell (i:=1) (v:= .int .i64 T.now.known) rfl) (And.intro (HV6.out.box.cell (i:=2) (v:= .slice A n1 c1) rfl) (HV6.out.box.cell (i:=3) (v:= .slice B m1 d1) rfl))));have hz6:=HZQ.out.below hb;have HFIN:=zH (hfin.2 _ hz6 (Nat.le_refl _) (by have:=HZQ.out.lt;omega));obtain⟨⟨ha0,ha1,ha2,ha3,ha4,ha5,ha6,ha7⟩,⟨hb2,hb3⟩,⟨hb4,hb5⟩,⟨hb6,hb7⟩,_⟩:=hz6.store4 (.int .i64 XB.1.things) (.int .i64 XB.1.now.known) (.slice A2 n2 c2) (.slice B2 m2 d2);have hv7:=HV6.out.box.other4 (g:=wr.heap.size) (by omega) (.int .i64 XB.1.things) (.int .i64 XB.1.now.known) (.slice A2 n2 c2) (.slice B2 m2 d2);have HK3:=zH (And.intro (hv7.cell (i:=0) (v:= .int .i64 T.things) rfl) (And.intro (hv7.cell (i:=1) (v:= .int .i64 T.now.known) rfl) (And.intro (hv7.cell (i:=2) (v:= .slice A n1 c1) rfl) (hv7.cell (i:=3) (v:= .slice B m1 d1) rfl))));clear hown hb hx1 hx3 hG6 hM6 hfin hz6 hv7)
      |(go_at_call 61;refine(HDO.out (w5.alloc (.cells #[.int .i64 0,.int .i64 0,.slice none 0 0,.slice none 0 0] 33)) kd tx ?_ hsz).mono ?_;(exact(HV5.out.own.1.keep (sL _)).at_);rintro e w6 ⟨A2,n2,c2,B2,m2,d2,rfl,hown,hb⟩;obtain⟨hx1,_,hx3⟩:=xJ kd tx HT.out.1;generalize dN T kd tx=XB at hown hx1 hx3⊢;have hG6:wr.grownBy w6 (some g):=fU (bB HG5.out _) hb;have hM6:DM g (v+50) w w6:=(HM5.out.alloc _).below hb;have hs5:wr.heap.size≤w5.heap.size:=HG5.out.size;have hfin:=y8 hlt (by omega) (Nat.le_refl _) hwr hM6 hG6 HV.out HS.out hx1 hx3 hown (by rw[World.size_alloc];omega) XB.2;have HV6:=zH (HV.out.grown hG6 (by omega));have HK2:=zH (And.intro (HV6.out.box.cell (i:=0) (v:= .int .i64 T.things) rfl) (And.intro (HV6.out.box.cell (i:=1) (v:= .int .i64 T.now.known) rfl) (And.intro (HV6.out.box.cell (i:=2) (v:= .slice A n1 c1) rfl) (HV6.out.box.cell (i:=3) (v:= .slice B m1 d1) rfl))));have hz6:=(aD.new w5 33 [.int .i64 0,.int .i64 0,.slice none 0 0,.slice none 0 0]).below hb;have HFIN:=zH (hfin.2 _ hz6 hs5 (by rw[World.size_alloc];omega));obtain⟨⟨ha0,ha1,ha2,ha3,ha4,ha5,ha6,ha7⟩,⟨hb2,hb3⟩,⟨hb4,hb5⟩,⟨hb6,hb7⟩,_⟩:=hz6.store4 (.int .i64 XB.1.things) (.int .i64 XB.1.now.known) (.slice A2 n2 c2) (.slice B2 m2 d2);have hv7:=HV6.out.box.other4 (g:=w5.heap.size) (by omega) (.int .i64 XB.1.things) (.int .i64 XB.1.now.known) (.slice A2 n2 c2) (.slice B2 m2 d2);have HK3:=zH (And.intro (hv7.cell (i:=0) (v:= .int .i64 T.things) rfl) (And.intro (hv7.cell (i:=1) (v:= .int .i64 T.now.known) rfl) (And.intro (hv7.cell (i:=2) (v:= .slice A n1 c1) rfl) (hv7.cell (i:=3) (v:= .slice B m1 d1) rfl))));clear hown hb hx1 hx3 hG6 hM6 hfin hz6 hv7)
      |(go_at_call 61;refine(HDO.out w5 kd tx ?_ hsz).mono ?_;(exact HV5.out.own.1.at_);rintro e w6 ⟨A2,n2,c2,B2,m2,d2,rfl,hown,hb⟩;obtain⟨hx1,_,hx3⟩:=xJ kd tx HT.out.1;generalize dN T kd tx=XB at hown hx1 hx3⊢;have hG6:wr.grownBy w6 (some g):=fU HG5.out hb;have hM6:DM g (v+50) w w6:=HM5.out.below hb;have hs5:wr.heap.size≤w5.heap.size:=HG5.out.size;have hfin:=y8 hlt (by omega) (Nat.le_refl _) hwr hM6 hG6 HV.out HS.out hx1 hx3 hown (by omega) XB.2;have HV6:=zH (HV.out.grown hG6 (by omega));have HK2:=zH (And.intro (HV6.out.box.cell (i:=0) (v:= .int .i64 T.things) rfl) (And.intro (HV6.out.box.cell (i:=1) (v:= .int .i64 T.now.known) rfl) (And.intro (HV6.out.box.cell (i:=2) (v:= .slice A n1 c1) rfl) (HV6.out.box.cell (i:=3) (v:= .slice B m1 d1) rfl))));have hv7:=HV6.out.box.alloc (.cells #[.int .i64 XB.1.things,.int .i64 XB.1.now.known,.slice A2 n2 c2,.slice B2 m2 d2] 33);have HK3:=zH (And.intro (hv7.cell (i:=0) (v:= .int .i64 T.things) rfl) (And.intro (hv7.cell (i:=1) (v:= .int .i64 T.now.known) rfl) (And.intro (hv7.cell (i:=2) (v:= .slice A n1 c1) rfl) (hv7.cell (i:=3) (v:= .slice B m1 d1) rfl))));have HFIN:=zH hfin.1;clear hv7 hown hb hx1 hx3 hG6 hM6 hfin))
    all_goals
     go_wp2_with fail
     go_meet
     exact HFIN.out
   case rest=>
    obtain⟨b7,X,b,A2,n2,c2,B2,m2,d2,rfl,rfl,hok,hsm,hb7,HB7,HX,HV2,HS2,HM2⟩:=hcut
    clear hc0 hc1 hc2 hc3 HDEED HDO
    cases b
    ·go_wp2_with fail
     go_roundw
     case rel=>exact⟨k-1,T,A,n1,c1,B,m1,d1,by omega,by go_num,HT,HV2,HS2,HM2.out.more (by have:=HVE.out;omega)⟩
     case measure=>simp[Go.RowKit.intOf];omega
    ·have hz0:=HB7.out.cell (i:=0) (v:= .int .i64 X.things) rfl
     have hz1:=HB7.out.cell (i:=1) (v:= .int .i64 X.now.known) rfl
     have hz2:=HB7.out.cell (i:=2) (v:= .slice A2 n2 c2) rfl
     have hz3:=HB7.out.cell (i:=3) (v:= .slice B2 m2 d2) rfl
     obtain⟨⟨ha0,ha1,ha2,ha3,ha4,ha5,ha6,ha7⟩,⟨hb2,hb3⟩,⟨hb4,hb5⟩,⟨hb6,hb7⟩,_⟩:=HV2.out.box.store4 (.int .i64 X.things) (.int .i64 X.now.known) (.slice A2 n2 c2) (.slice B2 m2 d2)
     obtain⟨hv,hs,hm⟩:=VX hlt (by omega) (by omega) HV2.out HX.out HS2.out HM2.out
     have HV3:=zH hv
     have HS3:=zH hs
     have HM3:=zH hm
     clear hv hs hm
     go_wp2_with fail
     go_roundw
     case rel=>exact⟨k-1,X,A2,n2,c2,B2,m2,d2,by omega,by go_num,⟨hok,hsm⟩,HV3,HS3,HM3.out.more (by have:=HVE.out;omega)⟩
     case measure=>simp[Go.RowKit.intOf];omega
  ·obtain rfl:k=0:=by omega
   clear hpos
   go_wp2_with fail
   refine(HODD.out _ _ (by omega) HM.out.rd).mono ?_
   rintro e w4 ⟨b,rfl,hbn,hr,hg⟩
   have HV4:=zH (HV.out.grown hg (by omega))
   have HM4:=zH (HM.out.next hr hg)
   have HS4:=zH (HS.out.grownO hg (fun j e=>by cases e;omega))
   clear hr hg hc0 hc1 hc2 hc3 HODD
   cases b
   ·have hc0:=HV4.out.box.cell (i:=0) (v:= .int .i64 T.things) rfl
    have hc1:=HV4.out.box.cell (i:=1) (v:= .int .i64 T.now.known) rfl
    have hc2:=HV4.out.box.cell (i:=2) (v:= .slice A n1 c1) rfl
    have hc3:=HV4.out.box.cell (i:=3) (v:= .slice B m1 d1) rfl
    obtain⟨⟨ha0,ha1,ha2,ha3,ha4,ha5,ha6,ha7⟩,⟨hb2,hb3⟩,⟨hb4,hb5⟩,⟨hb6,hb7⟩,HOUT⟩:=HS4.out.store4 (.int .i64 T.things) (.int .i64 T.now.known) (.slice A n1 c1) (.slice B m1 d1)
    have HFIN:=zH (tY (HM4.out.more (v:=u+300) (by omega)) hlt HV4.out.own.1 (by omega) (.int .i64 T.things) (.int .i64 T.now.known) (.slice A n1 c1) (.slice B m1 d1))
    go_wp2_with fail
    refine bodyPost_ret_by (gV (b:=w.heap.size) rfl rfl HOUT) rfl ⟨T,A,n1,c1,B,m1,d1,rfl,HFIN.out.1,HT.out.2,(fun _=>HT.out.1),HFIN.out.2⟩
   ·have HN:Hid (n≠0):=fun e=>by have:=hbn e;cases this
    clear hbn
    go_wp2_with fail
    refine(cE g _ 3 _ (by omega) (by omega) (by omega) HM4.out.rd).mono ?_
    rintro e w5 ⟨k3,rfl,hk30,hk31,hr,hg⟩
    have HV5:=zH (HV4.out.grown hg (by omega))
    have HM5:=zH (HM4.out.next hr hg)
    have HS5:=zH (HS4.out.grownO hg (fun j e=>by cases e;omega))
    clear hr hg hk31
    have hc0:=HV5.out.box.cell (i:=0) (v:= .int .i64 T.things) rfl
    have hc1:=HV5.out.box.cell (i:=1) (v:= .int .i64 T.now.known) rfl
    have hc2:=HV5.out.box.cell (i:=2) (v:= .slice A n1 c1) rfl
    have hc3:=HV5.out.box.cell (i:=3) (v:= .slice B m1 d1) rfl
    have hf0:=HV5.out.box.frozen 0
    have hf1:=HV5.out.box.frozen 1
    have hf2:=HV5.out.box.frozen 2
    by_cases h30:k3=0
    ·have hkb:(k3==0)=true:=by rw[h30];rfl
     clear h30
     obtain⟨hi,hs,hm⟩:=EO (i:=0) (v:= .int .i64 4) hlt (by omega) (by omega) HV5.out.own.1 HS5.out HM5.out
     have HI6:=zH hi
     have HS6:=zH hs
     have HM6:=zH hm
     have HX6:=zH (HV5.out.box.set 0 (.int .i64 4))
     clear hi hs hm
     go_upto_region 15 with fail
     obtain⟨X6,hX6⟩:∃W,w5.setCell ⟨h,0,none⟩ (.int .i64 4)=W:=⟨_,rfl⟩
     rw[hX6] at HI6 HS6 HM6 HX6⊢
     clear hX6 hc0 hc1 hc2 hc3 hf0 hf1 hf2
     have hc0:=HX6.out.cell (i:=0) rfl
     have hc1:=HX6.out.cell (i:=1) rfl
     have hc2:=HX6.out.cell (i:=2) rfl
     have hc3:=HX6.out.cell (i:=3) rfl
     obtain⟨⟨ha0,ha1,ha2,ha3,ha4,ha5,ha6,ha7⟩,⟨hb2,hb3⟩,⟨hb4,hb5⟩,⟨hb6,hb7⟩,HOUT⟩:=HS6.out.store4 (.int .i64 4) (.int .i64 T.now.known) (.slice A n1 c1) (.slice B m1 d1)
     have HFIN:=zH (tY (HM6.out.more (v:=u+300) (by omega)) hlt (HI6.out.same 4 T.now.known) (by omega) (.int .i64 4) (.int .i64 T.now.known) (.slice A n1 c1) (.slice B m1 d1))
     go_wp2_with fail
     refine bodyPost_ret_by (gV (b:=w.heap.size) rfl rfl HOUT) rfl ⟨⟨4,⟨T.now.known,T.now.op⟩,T.past⟩,A,n1,c1,B,m1,d1,rfl,HFIN.out.1,(HT.out.2.same 4 T.now.known),(fun e=>absurd e HN.out),HFIN.out.2⟩
    by_cases h31:k3=1
    ·have hkb:(k3==0)=false:=by rw[beq_eq_false_iff_ne];exact h30
     have hkc:(k3==1)=true:=by rw[h31];rfl
     clear h30 h31
     obtain⟨hi,hs,hm⟩:=EO (i:=1) (v:= .int .i64 0) hlt (by omega) (by omega) HV5.out.own.1 HS5.out HM5.out
     have HI6:=zH hi
     have HS6:=zH hs
     have HM6:=zH hm
     have HX6:=zH (HV5.out.box.set 1 (.int .i64 0))
     clear hi hs hm
     go_upto_region 15 with fail
     obtain⟨X6,hX6⟩:∃W,w5.setCell ⟨h,1,none⟩ (.int .i64 0)=W:=⟨_,rfl⟩
     rw[hX6] at HI6 HS6 HM6 HX6⊢
     clear hX6 hc0 hc1 hc2 hc3 hf0 hf1 hf2
     have hc0:=HX6.out.cell (i:=0) rfl
     have hc1:=HX6.out.cell (i:=1) rfl
     have hc2:=HX6.out.cell (i:=2) rfl
     have hc3:=HX6.out.cell (i:=3) rfl
     obtain⟨⟨ha0,ha1,ha2,ha3,ha4,ha5,ha6,ha7⟩,⟨hb2,hb3⟩,⟨hb4,hb5⟩,⟨hb6,hb7⟩,HOUT⟩:=HS6.out.store4 (.int .i64 T.things) (.int .i64 0) (.slice A n1 c1) (.slice B m1 d1)
     have HFIN:=zH (tY (HM6.out.more (v:=u+300) (by omega)) hlt (HI6.out.same T.things 0) (by omega) (.int .i64 T.things) (.int .i64 0) (.slice A n1 c1) (.slice B m1 d1))
     go_wp2_with fail
     refine bodyPost_ret_by (gV (b:=w.heap.size) rfl rfl HOUT) rfl ⟨⟨T.things,⟨0,T.now.op⟩,T.past⟩,A,n1,c1,B,m1,d1,rfl,HFIN.out.1,(HT.out.2.same T.things 0),(fun e=>absurd e HN.out),HFIN.out.2⟩
    ·have hkb:(k3==0)=false:=by rw[beq_eq_false_iff_ne];exact h30
     have hkc:(k3==1)=false:=by rw[beq_eq_false_iff_ne];exact h31
     have hol:T.now.op.length≤4:=(pV ((cT aH).1 HT.out.1).1).1
     have HSZ:Hid (h+1≤w5.heap.size):=HV5.out.box.lt
     have HOL:Hid (T.now.op.length≤1048576):=by unfold Hid;omega
     clear h30 h31 hc0 hc1 hc3 hf0 hf1 hf2
     go_upto_region 15 with(at_builtin;refine QA (W:=w5) rfl _ _ rfl (h+1) (.slice A n1 c1) T.now.op ⟨#[40,97]⟩ rfl HV5.out.own.2.1 rfl HOL.out HSZ.out ?_;intro v1 w6 ho hg hcell;obtain⟨A3,c3,rfl,_⟩:=ho.form;obtain⟨past,hi6,hs6⟩:=VG HV5.out.own HT.out.2 (by decide) (by omega) ho hg hcell;have hb6:=(HV5.out.box.alloc _).grownO hg (fun j e=>by have:=(HV5.out.own.2.1.lt e).1;omega);have HS6:=zH ((HS5.out.alloc _).grownO hg (fun j e=>by have:=(HV5.out.own.2.1.lt e).1;omega));have HM6:=zH ((HM5.out.alloc _).fresh hg (fun j e=>by have:=(HV5.out.own.2.1.lt e).1;omega) hlt);obtain⟨n3,hn3⟩:∃n3,(T.now.op++[(⟨#[40,97]⟩:ByteArray)]).length=n3:=⟨_,rfl⟩;rw[hn3] at hi6⊢;have hd2:=hb6.cell (i:=2) (v:= .slice A n1 c1) rfl;have hf2:=hb6.frozen 2;have HX6:=zH (hb6.set 2 (.slice A3 n3 c3));have HI6:=zH hi6;have HSM:=zH hs6;clear ho hg hcell hn3 hi6 hs6 hb6)
     obtain⟨hi,hs,hm⟩:=EO (i:=2) (v:= .slice A3 n3 c3) hlt (by omega) (by omega) HI6.out HS6.out HM6.out
     have HI7:=zH hi
     have HS7:=zH hs
     have HM7:=zH hm
     obtain⟨X7,hX7⟩:∃W,w6.setCell ⟨h,2,none⟩ (.slice A3 n3 c3)=W:=⟨_,rfl⟩
     rw[hX7] at HI7 HS7 HM7 HX6⊢
     clear hi hs hm hX7 hd2 hf2 hc2
     have hc0:=HX6.out.cell (i:=0) rfl
     have hc1:=HX6.out.cell (i:=1) rfl
     have hc2:=HX6.out.cell (i:=2) rfl
     have hc3:=HX6.out.cell (i:=3) rfl
     obtain⟨⟨ha0,ha1,ha2,ha3,ha4,ha5,ha6,ha7⟩,⟨hb2,hb3⟩,⟨hb4,hb5⟩,⟨hb6,hb7⟩,HOUT⟩:=HS7.out.store4 (.int .i64 T.things) (.int .i64 T.now.known) (.slice A3 n3 c3) (.slice B m1 d1)
     have HFIN:=zH (tY (HM7.out.more (v:=u+300) (by omega)) hlt HI7.out (by omega) (.int .i64 T.things) (.int .i64 T.now.known) (.slice A3 n3 c3) (.slice B m1 d1))
     go_wp2_with fail
     refine bodyPost_ret_by (gV (b:=w.heap.size) rfl rfl HOUT) rfl ⟨⟨T.things,⟨T.now.known,T.now.op++[(⟨#[40,97]⟩:ByteArray)]⟩,past⟩,A3,n3,c3,B,m1,d1,rfl,HFIN.out.1,HSM.out,(fun e=>absurd e HN.out),HFIN.out.2⟩
theorem nL{w:World}{b lo:Nat}(h:b<lo)(a b' c d:Value):aX lo w ((((w.setCell ⟨b,0,none⟩ a).setCell ⟨b,1,none⟩ b').setCell ⟨b,2,none⟩ c).setCell ⟨b,3,none⟩ d):=by
 have hset:∀(W:World) (i:Nat) (v:Value),aX lo W (W.setCell ⟨b,i,none⟩ v):=fun W i v=>aX.set h
 exact(((hset w 0 a).trans (hset _ 1 b') (Nat.le_refl _)).trans (hset _ 2 c) (Nat.le_refl _)).trans (hset _ 3 d) (Nat.le_refl _)
end Go.Proofs.YtfhjcacfchkdpaaGreatDoor
namespace Go.Proofs.YtfhjcacfchkdpaaGreatDoor
open Go.RowKit
def iZ(wr:World)(bad:Nat→Prop)(T:aL)(A:Option Addr)(n c:Nat)(B:Option Addr)(m d:Nat):Prop:=∃wb lo,dL wb lo T A n c B m d∧aX lo wb wr∧∀k,bad k→k<lo∨wb.heap.size≤k
section
variable {wr w' :World} {bad bad' :Nat→Prop} {T:aL} {A B:Option Addr} {n c m d:Nat}
theorem iZ.at_(h:iZ wr bad T A n c B m d):bN wr T A n c B m d:=by
 obtain⟨wb,lo,h1,h2,_⟩:=h
 exact(h1.keep h2).at_
theorem iZ.grown{row:Option Nat}(h:iZ wr bad T A n c B m d)(hg:wr.grownBy w' row)(hr:∀k,row=some k→bad k):iZ w' bad T A n c B m d:=by
 obtain⟨wb,lo,h1,h2,h3⟩:=h
 refine⟨wb,lo,h1,⟨Nat.le_trans h2.1 hg.size,fun b hb1 hb2=>(hg.block b (Nat.lt_of_lt_of_le hb2 h2.1) fun e=> ?_).trans (h2.2 b hb1 hb2)⟩,h3⟩
 have:=h3 b (hr b e.symm)
 omega
theorem iZ.below(h:iZ wr bad T A n c B m d)(hb:Below wr.heap.size wr w'):iZ w' bad T A n c B m d:=h.grown (row:=none) ⟨hb.os,hb.tape,hb.output,hb.size,fun k hk _=>hb.block k hk⟩ (fun k e=>by cases e)
theorem iZ.set{b i:Nat}{v:Value}(h:iZ wr bad T A n c B m d)(hb:bad b):iZ (wr.setCell ⟨b,i,none⟩ v) bad T A n c B m d:=
 h.grown (row:=some b) (gE (World.grownBy.refl wr (some b)) i v) (fun k e=>by cases e;exact hb)
theorem iZ.more(h:iZ wr bad T A n c B m d)(hb:∀k,bad' k→bad k∨wr.heap.size≤k):iZ wr bad' T A n c B m d:=by
 obtain⟨wb,lo,h1,h2,h3⟩:=h
 refine⟨wb,lo,h1,h2,fun k hk=> ?_⟩
 rcases hb k hk with h|h
 ·exact h3 k h
 ·have:=h2.1;omega
theorem iZ.new{lo:Nat}(h:dL wr lo T A n c B m d)(hb:∀k,bad k→k<lo):iZ wr bad T A n c B m d:=⟨wr,lo,h,aX.refl _ _,fun k hk=> .inl (hb k hk)⟩
end
theorem MM{T:aL}{k:Int}{s:ByteArray}(h:(dN T k s).2=true):cD (dN T k s).1:=by
 cases hok:dP T with
 |false=>rw[G2 k s hok] at h;cases h
 |true=>exact(xJ k s hok).2.2
theorem vP{W:World}{ops:Array Oper}{rest:List Oper}{o:Oper}{a:Act}{Q:Exit→Act→World→Prop}(hgd:o.guard=none)(s x:Operand)
  (ho:o.op= .call {callee:= .builtin .append,args:= #[s,x],argTypes:= #[24,24]}) (base:Nat) (v:Value) (ds:List bK) (hs:a.eval s=v) (hown:bU W base v ds)
  (f:Int) (g:ByteArray) (hx:a.eval x= .slice (some ⟨W.heap.size,0,none⟩) 1 1) (hl:ds.length≤1048576) (hb:base≤W.heap.size)
  (h:∀v' w',bU w' base v' (ds++[(f,g)])→(W.alloc (.cells #[.int .i64 f,.string g] 41)).grownBy w' v.ownBlock→(∀k,v'.ownBlock=some k→v.ownBlock=some k∨W.heap.size≤k)→wpList Tryz.prog ops Q rest (a.put o.dst v') w'):
  wpList Tryz.prog ops Q (o::rest) a (W.alloc (.cells #[.int .i64 f,.string g] 41)):=by
 obtain⟨i0,hi0,hz0,hz1,hz2⟩:=info_parts u9
 refine wpList_append_own_at _ hgd s x 24 ho base 41 i0 (.agg #[.int .i64 0,.string ByteArray.empty]) 2 24 Tryz.underlying24 hi0 hz0 hz1 hz2 rfl (by decide) v ds.length (nG ds) hs (World.ownsRow.alloc hown _)
  ⟨W.heap.size,0,none⟩ 1 1 [.int .i64 f,.string g] hx rfl ?_ (fun u hu=>by
   rw[List.mem_cons,List.mem_singleton] at hu
   rcases hu with rfl|rfl<;>rfl) (by simp only[maxLen];omega) (by omega) (by rw[World.size_alloc];omega) ?_
 ·exact cell_two_new _ _ _ _
 intro v' w' h1 h2 _ h4
 refine h v' w' ?_ h2 (fun k hk=> ?_)
 ·unfold bU
  rw[BL,List.length_append]
  exact h1
 ·rcases h4 with h4|h4
  ·left;rw[←h4];exact hk
  ·right;rw[h4,World.size_alloc] at hk;injection hk with hk;omega
def NR(m g u:Nat)(w:World)(e:Ending)(w' :World):Prop:=∃(v:Value) (ds:List bK),e= .returned v∧bU w' w.heap.size v ds∧ds.length≤m∧(∀d∈ds,d.2.size≤100)∧Rd w' g u∧w.grownBy w' (some g)
theorem x5{w w' :World}{base g:Nat}{v:Value}{ds:List bK}(h:bU w base v ds)(hg:w.grownBy w' (some g))(hb:g<base):bU w' base v ds:=by
 refine h.kept hg ?_
 cases e:v.ownBlock with
 |none=>exact .inl rfl
 |some k=>
  right
  intro e2
  have:=(World.ownsRow.lt h k e).1
  injection e2
  omega
theorem bU.set{w:World}{base b i:Nat}{v u:Value}{ds:List bK}{T:TypeId}{cs:List Value}(h:bU w base v ds)(hb:aD w b T cs)(hT:T≠41):bU (w.setCell ⟨b,i,none⟩ u) base v ds:=by
 refine h.kept (row:=some b) (gE (World.grownBy.refl w (some b)) i u) ?_
 cases e:v.ownBlock with
 |none=>exact .inl rfl
 |some k=>right;intro e2;injection e2 with e2;exact iP hb h hT k e e2
theorem bU.lt{w:World}{base:Nat}{v:Value}{ds:List bK}(h:bU w base v ds){k:Nat}(hk:v.ownBlock=some k):base≤k∧k<w.heap.size:=World.ownsRow.lt h k hk
theorem OH(g u:Nat)(T:aL)(A B:Option Addr)(n c m d:Nat)(w:World)(lo:Nat)(hlo:g<lo)(hT:dL w lo T A n c B m d)(hs:cD T)(hu:u≤700000)(hR:Rd w g u):
  Calls Tryz.prog 48 #[.pointer (some ⟨g,0,none⟩),.agg #[.int .i64 T.things,.int .i64 T.now.known,.slice A n c,.slice B m d]] w (NR 5 g (u+300) w):=by
 have hlt:=hR.lt
 have HM:Hid (DM g u w (w.alloc (.cells #[.int .i64 T.things,.int .i64 T.now.known,.slice A n c,.slice B m d] 33))):=(DM.start hR).alloc _
 have HX:Hid (aD (w.alloc (.cells #[.int .i64 T.things,.int .i64 T.now.known,.slice A n c,.slice B m d] 33)) w.heap.size 33 [.int .i64 T.things,.int .i64 T.now.known,.slice A n c,.slice B m d]):=aD.new w _ [.int .i64 T.things,.int .i64 T.now.known,.slice A n c,.slice B m d]
 have HL:Hid (iZ w (fun k=>k=g∨w.heap.size≤k) T A n c B m d):=⟨w,lo,hT,aX.refl _ _,fun k hk=>by omega⟩
 have HSM:=zH hs
 clear hR hT hs hlo
 go_enter Tryz.func48,Tryz.ntmps48
 go_upto_region 1 with fail
 obtain⟨W1,hW1⟩:∃W,w.alloc (.cells #[.int .i64 T.things,.int .i64 T.now.known,.slice A n c,.slice B m d] 33)=W:=⟨_,rfl⟩
 rw[hW1] at HM HX⊢
 have HB1:Hid (Below w.heap.size w W1):=by unfold Hid;rw[←hW1];exact(Below.refl _ _).alloc (Nat.le_refl _) _
 clear hW1
 have HXA:=zH (HX.out.alloc (.cells #[] 41))
 have hx0:=HXA.out.cell (i:=0) (v:= .int .i64 T.things) rfl
 have hx1:=HXA.out.cell (i:=1) (v:= .int .i64 T.now.known) rfl
 have hx2:=HXA.out.cell (i:=2) (v:= .slice A n c) rfl
 have hx3:=HXA.out.cell (i:=3) (v:= .slice B m d) rfl
 go_upto_region 3 with fail
 have hsz1:w.heap.size≤W1.heap.size:=HB1.out.size
 have hX3:=aD.new (W1.alloc (.cells #[] 41)) 33 [.int .i64 T.things,.int .i64 T.now.known,.slice A n c,.slice B m d]
 have hO3:=(bU.lit0 W1 w.heap.size hsz1).below ((Below.refl _ _).alloc (Nat.le_refl _) (.cells #[.int .i64 T.things,.int .i64 T.now.known,.slice A n c,.slice B m d] 33))
 have hM3:=(HM.out.alloc (.cells #[] 41)).alloc (.cells #[.int .i64 T.things,.int .i64 T.now.known,.slice A n c,.slice B m d] 33)
 have hL3:=(HL.out.below HB1.out).below (((Below.refl W1.heap.size W1).alloc (Nat.le_refl _) (.cells #[] 41)).alloc (by rw[World.size_alloc];omega) (.cells #[.int .i64 T.things,.int .i64 T.now.known,.slice A n c,.slice B m d] 33))
 have hd3:(Value.slice (some ⟨W1.heap.size,0,none⟩) 0 0).ownBlock=some W1.heap.size:=rfl
 rw[World.size_alloc] at hX3
 obtain⟨W3,hW3⟩:∃W,(W1.alloc (.cells #[] 41)).alloc (.cells #[.int .i64 T.things,.int .i64 T.now.known,.slice A n c,.slice B m d] 33)=W:=⟨_,rfl⟩
 obtain⟨h,hh⟩:∃h,W1.heap.size+1=h:=⟨_,rfl⟩
 rw[hW3] at hX3 hO3 hM3 hL3⊢
 rw[hh] at hX3⊢
 have HX3:=zH hX3
 have HO3:=zH hO3
 have HM3:=zH hM3
 have HL3:Hid (iZ W3 (fun k=>k=g∨k=h∨(Value.slice (some ⟨W1.heap.size,0,none⟩) 0 0).ownBlock=some k) T A n c B m d):=hL3.more (fun k hk=>by rw[hd3] at hk;simp only[Option.some.injEq] at hk;rcases hk with h|h|h<;>left<;>omega)
 have hwh:w.heap.size<h:=by omega
 clear hX3 hO3 hM3 hL3 hd3 hW3 hx0 hx1 hx2 hx3 HXA HX HM HL HB1 hsz1
 go_wp2_with fail
 refine(cE g _ 6 _ (by omega) (by omega) (by omega) HM3.out.rd).mono ?_
 rintro e w4 ⟨k0,rfl,hk0,hk1,hr,hg⟩
 have hk5:=hk1 (by omega)
 have HX4:=zH (HX3.out.grownO hg (fun j e=>by cases e;omega))
 have HO4:=zH (x5 HO3.out hg hlt)
 have HL4:=zH (HL3.out.grown hg (fun j e=>by cases e;exact .inl rfl))
 have HM4:=zH (HM3.out.next hr hg)
 obtain⟨kk,rfl⟩:∃kk:Nat,k0=(kk:Int):=⟨k0.toNat,by omega⟩
 clear hr hg hk1 HX3 HO3 HL3 HM3
 go_wp2_with fail
 go_loopw [5,7] (fun v i wr=>∃(k:Nat) (T:aL) (A:Option Addr) (n c:Nat) (B:Option Addr) (m d:Nat) (ds:List bK),k≤5∧i= .int .i64 k∧Hid (ds.length+k≤5)∧Hid (cD T)∧Hid (iZ wr (fun k=>k=g∨k=h∨v.ownBlock=some k) T A n c B m d)∧Hid (aD wr h 33 [.int .i64 T.things,.int .i64 T.now.known,.slice A n c,.slice B m d])∧Hid (bU wr w.heap.size v ds)∧Hid (∀d∈ds,d.2.size≤100)∧Hid (DM g (u+1+51*(5-k)) w wr)) (fun _ i _=>(Go.RowKit.intOf i).toNat)
 case atStart=>exact⟨kk,T,A,n,c,B,m,d,[],by omega,rfl,by unfold Hid;simp;omega,HSM,HL4,HX4,HO4,by unfold Hid;simp,HM4.out.more (by omega)⟩
 case round=>
  obtain⟨k,T,A,n,c,B,m,d,ds,hk,rfl,HLN,HSM,HL,HX,HO,HDS,HM⟩:=hrel
  by_cases hpos:0<k
  ·have hdp:decide ((0:Int)<(k:Int))=true:=decide_eq_true (by omega)
   obtain⟨y,hy⟩:∃y,u+1+51*(5-k)=y:=⟨_,rfl⟩
   have hyb:y≤701000:=by omega
   rw[hy] at HM
   have HYE:Hid (y+51=u+1+51*(5-(k-1))):=by unfold Hid;omega
   clear hy
   have hx0:=HX.out.cell (i:=0) (v:= .int .i64 T.things) rfl
   have hx1:=HX.out.cell (i:=1) (v:= .int .i64 T.now.known) rfl
   have hx2:=HX.out.cell (i:=2) (v:= .slice A n c) rfl
   have hx3:=HX.out.cell (i:=3) (v:= .slice B m d) rfl
   obtain⟨Ao,co,rfl,_⟩:=HO.out.form
   obtain⟨no,hno⟩:∃no,ds.length=no:=⟨_,rfl⟩
   have HNO:=zH hno
   rw[hno] at HL HO⊢
   clear hno
   go_wp2_with fail
   refine(FD g y _ _ _ _ A B n c m d rfl rfl _ (by omega) HM.out.rd).mono ?_
   rintro e w5 ⟨kd,tx,rfl,hsz,hr,hg⟩
   have HX5:=zH (HX.out.grownO hg (fun j e=>by cases e;omega))
   have HO5:=zH (x5 HO.out hg hlt)
   have HL5:=zH (HL.out.grown hg (fun j e=>by cases e;exact .inl rfl))
   have HM5:=zH (HM.out.next hr hg)
   have HTX:=zH hsz
   clear hr hg hx0 hx1 hx2 hx3 hsz HX HO HL HM
   go_upto_region 7 with fail
   have hD6:=aD.new w5 41 [.int .i64 kd,.string tx]
   have HX6:=zH (HX5.out.alloc (.cells #[.int .i64 kd,.string tx] 41))
   have HO6:=zH (HO5.out.below ((Below.refl _ _).alloc (Nat.le_refl _) (.cells #[.int .i64 kd,.string tx] 41)))
   have HL6:=zH (HL5.out.below ((Below.refl _ _).alloc (Nat.le_refl _) (.cells #[.int .i64 kd,.string tx] 41)))
   have HM6:=zH (HM5.out.alloc (.cells #[.int .i64 kd,.string tx] 41))
   obtain⟨h8,hh8⟩:∃h8,w5.heap.size=h8:=⟨_,rfl⟩
   have hhb:h<h8:=by rw[←hh8];exact HX5.out.lt
   have HOB:Hid (∀j,(Value.slice Ao no co).ownBlock=some j→j<h8):=fun j hj=>by rw[←hh8];exact(HO5.out.lt hj).2
   obtain⟨w6,hw6⟩:∃W,w5.alloc (.cells #[.int .i64 kd,.string tx] 41)=W:=⟨_,rfl⟩
   rw[hw6] at hD6 HX6 HO6 HL6 HM6⊢
   rw[hh8] at hD6
   try rw[hh8]
   have HD6:=zH hD6
   clear hw6 hh8 hD6 HX5 HO5 HL5 HM5
   have hx0:=HX6.out.cell (i:=0) (v:= .int .i64 T.things) rfl
   have hx1:=HX6.out.cell (i:=1) (v:= .int .i64 T.now.known) rfl
   have hx2:=HX6.out.cell (i:=2) (v:= .slice A n c) rfl
   have hx3:=HX6.out.cell (i:=3) (v:= .slice B m d) rfl
   have hd0:=HD6.out.cell (i:=0) (v:= .int .i64 kd) rfl
   have hd1:=HD6.out.cell (i:=1) (v:= .string tx) rfl
   go_wp2_with fail
   refine(BS T A B n c m d kd tx _ HL6.out.at_ HSM.out (by have:=HTX.out;omega)).mono ?_
   rintro e w7 ⟨A2,n2,c2,B2,m2,d2,rfl,hown,hb⟩
   have hsm:=MM (T:=T) (k:=kd) (s:=tx)
   generalize dN T kd tx=XB at hown hsm⊢
   have HX7:=zH (HX6.out.below hb)
   have HO7:=zH (HO6.out.below hb)
   have HL7:=zH (HL6.out.below hb)
   have HM7:=zH (HM6.out.below hb)
   have HD7:=zH (HD6.out.below hb)
   have HN7:Hid (iZ w7 (fun k=>k=g∨k=h∨(Value.slice Ao no co).ownBlock=some k) XB.1 A2 n2 c2 B2 m2 d2):=iZ.new hown.1 (fun j hj=>by
    have h6:=HX6.out.lt
    have hg6:=HM6.out.rd.lt
    rcases hj with e|e|e
    ·omega
    ·omega
    ·exact(HO6.out.lt e).2)
   have HSX:=zH hsm
   clear hown hb hsm hx0 hx1 hx2 hx3 hd0 hd1 HX6 HO6 HL6 HM6 HD6
   go_upto_region 8 with fail
   have hY8:=aD.new w7 33 [.int .i64 XB.1.things,.int .i64 XB.1.now.known,.slice A2 n2 c2,.slice B2 m2 d2]
   have hbel:Below w7.heap.size w7 (w7.alloc (.cells #[.int .i64 XB.1.things,.int .i64 XB.1.now.known,.slice A2 n2 c2,.slice B2 m2 d2] 33)):=(Below.refl _ _).alloc (Nat.le_refl _) _
   have HX8:=zH (HX7.out.below hbel)
   have HO8:=zH (HO7.out.below hbel)
   have HL8:=zH (HL7.out.below hbel)
   have HN8:=zH (HN7.out.below hbel)
   have HM8:=zH (HM7.out.below hbel)
   have HD8:=zH (HD7.out.below hbel)
   obtain⟨h9,hh9⟩:∃h9,w7.heap.size=h9:=⟨_,rfl⟩
   obtain⟨w8,hw8⟩:∃W,w7.alloc (.cells #[.int .i64 XB.1.things,.int .i64 XB.1.now.known,.slice A2 n2 c2,.slice B2 m2 d2] 33)=W:=⟨_,rfl⟩
   rw[hw8] at hY8 HX8 HO8 HL8 HN8 HM8 HD8⊢
   rw[hh9] at hY8
   try rw[hh9]
   have HY8:=zH hY8
   have hh9b:h<h9:=by rw[←hh9];exact HX7.out.lt
   clear hw8 hh9 hY8 hbel HX7 HO7 HL7 HN7 HM7 HD7
   have hnol:no≤4:=by have:=HLN.out;have:=HNO.out;omega
   cases hb:XB.2
   ·(try rw[hb])
    have hd0:=HD8.out.cell (i:=0) (v:= .int .i64 kd) rfl
    have hd1:=HD8.out.cell (i:=1) (v:= .string tx) rfl
    have hob:w.heap.size≤w8.heap.size:=HM8.out.gr.size
    have hap:∀j,(Value.slice Ao no co).ownBlock=some j→j≠h:=fun j hj=>iP HX8.out HO8.out (by decide) j hj
    have HNO4:Hid (ds.length≤1048576):=by unfold Hid;rw[HNO.out];omega
    go_wp2_with (at_builtin;refine vP (W:=w8) rfl _ _ rfl w.heap.size (.slice Ao no co) ds rfl HO8.out kd tx rfl HNO4.out hob ?_;intro v' w10 ho hg hat)
    have HFO:=zH ho
    have HFX:=zH ((HX8.out.alloc (.cells #[.int .i64 kd,.string tx] 41)).grownO hg hap)
    have HFM:=zH ((HM8.out.alloc (.cells #[.int .i64 kd,.string tx] 41)).fresh hg (fun j e=>(HO8.out.lt e).1) hlt)
    have HFL:Hid (iZ w10 (fun k=>k=g∨k=h∨v'.ownBlock=some k) T A n c B m d):=by
     have h0:=HL8.out.more (bad' :=fun k=>(k=g∨k=h∨(Value.slice Ao no co).ownBlock=some k)∨w8.heap.size≤k) (fun k hk=>hk)
     have h1:=(h0.below ((Below.refl _ _).alloc (Nat.le_refl _) (.cells #[.int .i64 kd,.string tx] 41))).grown hg (fun j e=> .inl (.inr (.inr e)))
     exact h1.more (fun k hk=> .inl (by
      rcases hk with e|e|e
      ·exact .inl (.inl e)
      ·exact .inl (.inr (.inl e))
      ·rcases hat k e with e|e
       ·exact .inl (.inr (.inr e))
       ·exact .inr e))
    go_roundw
    case rel=>exact⟨k-1,T,A,n,c,B,m,d,ds++[(kd,tx)],by omega,by go_num,by unfold Hid;rw[List.length_append];have:=HLN.out;simp;omega,HSM,HFL,HFX,HFO,fun d hd=>by
     rcases List.mem_append.1 hd with h|h
     ·exact HDS.out d h
     ·rw[List.mem_singleton] at h;rw[h];exact HTX.out,HFM.out.more (by have:=HYE.out;omega)⟩
    case measure=>simp[Go.RowKit.intOf];omega
   ·have hz0:=HY8.out.cell (i:=0) (v:= .int .i64 XB.1.things) rfl
    have hz1:=HY8.out.cell (i:=1) (v:= .int .i64 XB.1.now.known) rfl
    have hz2:=HY8.out.cell (i:=2) (v:= .slice A2 n2 c2) rfl
    have hz3:=HY8.out.cell (i:=3) (v:= .slice B2 m2 d2) rfl
    obtain⟨⟨ha0,ha1,ha2,ha3,ha4,ha5,ha6,ha7⟩,⟨hb2,hb3⟩,⟨hb4,hb5⟩,⟨hb6,hb7⟩,HX9⟩:=HX8.out.store4 (.int .i64 XB.1.things) (.int .i64 XB.1.now.known) (.slice A2 n2 c2) (.slice B2 m2 d2)
    have HSX2:=zH (HSX.out hb)
    have HO9:Hid (bU ((((w8.setCell ⟨h,0,none⟩ (.int .i64 XB.1.things)).setCell ⟨h,1,none⟩ (.int .i64 XB.1.now.known)).setCell ⟨h,2,none⟩ (.slice A2 n2 c2)).setCell ⟨h,3,none⟩ (.slice B2 m2 d2)) w.heap.size (.slice Ao no co) ds):=((((HO8.out.set HX8.out (by decide)).set (HX8.out.set 0 _) (by decide)).set ((HX8.out.set 0 _).set 1 _) (by decide)).set (((HX8.out.set 0 _).set 1 _).set 2 _) (by decide))
    have HN9:Hid (iZ ((((w8.setCell ⟨h,0,none⟩ (.int .i64 XB.1.things)).setCell ⟨h,1,none⟩ (.int .i64 XB.1.now.known)).setCell ⟨h,2,none⟩ (.slice A2 n2 c2)).setCell ⟨h,3,none⟩ (.slice B2 m2 d2)) (fun k=>k=g∨k=h∨(Value.slice Ao no co).ownBlock=some k) XB.1 A2 n2 c2 B2 m2 d2):=(((HN8.out.set (.inr (.inl rfl))).set (.inr (.inl rfl))).set (.inr (.inl rfl))).set (.inr (.inl rfl))
    have HM9:Hid (DM g (y+50) w ((((w8.setCell ⟨h,0,none⟩ (.int .i64 XB.1.things)).setCell ⟨h,1,none⟩ (.int .i64 XB.1.now.known)).setCell ⟨h,2,none⟩ (.slice A2 n2 c2)).setCell ⟨h,3,none⟩ (.slice B2 m2 d2))):=(((HM8.out.set (by omega) hlt).set (by omega) hlt).set (by omega) hlt).set (by omega) hlt
    have HD9:=zH (HD8.out.other4 (g:=h) (by omega) (.int .i64 XB.1.things) (.int .i64 XB.1.now.known) (.slice A2 n2 c2) (.slice B2 m2 d2))
    (try rw[hb])
    go_upto_region 10 with fail
    obtain⟨w9,hw9⟩:∃W,(((w8.setCell ⟨h,0,none⟩ (.int .i64 XB.1.things)).setCell ⟨h,1,none⟩ (.int .i64 XB.1.now.known)).setCell ⟨h,2,none⟩ (.slice A2 n2 c2)).setCell ⟨h,3,none⟩ (.slice B2 m2 d2)=W:=⟨_,rfl⟩
    rw[hw9] at HX9 HO9 HN9 HM9 HD9⊢
    clear hw9 hz0 hz1 hz2 hz3 ha0 ha1 ha2 ha3 ha4 ha5 ha6 ha7 hb2 hb3 hb4 hb5 hb6 hb7
    have hd0:=HD9.out.cell (i:=0) (v:= .int .i64 kd) rfl
    have hd1:=HD9.out.cell (i:=1) (v:= .string tx) rfl
    have hob:w.heap.size≤w9.heap.size:=HM9.out.gr.size
    have hap:∀j,(Value.slice Ao no co).ownBlock=some j→j≠h:=fun j hj=>iP HX9.out HO9.out (by decide) j hj
    have HNO4:Hid (ds.length≤1048576):=by unfold Hid;rw[HNO.out];omega
    go_wp2_with (at_builtin;refine vP (W:=w9) rfl _ _ rfl w.heap.size (.slice Ao no co) ds rfl HO9.out kd tx rfl HNO4.out hob ?_;intro v' w10 ho hg hat)
    have HFO:=zH ho
    have HFX:=zH ((HX9.out.alloc (.cells #[.int .i64 kd,.string tx] 41)).grownO hg hap)
    have HFM:=zH ((HM9.out.alloc (.cells #[.int .i64 kd,.string tx] 41)).fresh hg (fun j e=>(HO9.out.lt e).1) hlt)
    have HFL:Hid (iZ w10 (fun k=>k=g∨k=h∨v'.ownBlock=some k) XB.1 A2 n2 c2 B2 m2 d2):=by
     have h0:=HN9.out.more (bad' :=fun k=>(k=g∨k=h∨(Value.slice Ao no co).ownBlock=some k)∨w9.heap.size≤k) (fun k hk=>hk)
     have h1:=(h0.below ((Below.refl _ _).alloc (Nat.le_refl _) (.cells #[.int .i64 kd,.string tx] 41))).grown hg (fun j e=> .inl (.inr (.inr e)))
     exact h1.more (fun k hk=> .inl (by
      rcases hk with e|e|e
      ·exact .inl (.inl e)
      ·exact .inl (.inr (.inl e))
      ·rcases hat k e with e|e
       ·exact .inl (.inr (.inr e))
       ·exact .inr e))
    go_roundw
    case rel=>exact⟨k-1,XB.1,A2,n2,c2,B2,m2,d2,ds++[(kd,tx)],by omega,by go_num,by unfold Hid;rw[List.length_append];have:=HLN.out;simp;omega,HSX2,HFL,HFX,HFO,fun d hd=>by
     rcases List.mem_append.1 hd with h|h
     ·exact HDS.out d h
     ·rw[List.mem_singleton] at h;rw[h];exact HTX.out,HFM.out.more (by have:=HYE.out;omega)⟩
    case measure=>simp[Go.RowKit.intOf];omega
  ·obtain rfl:k=0:=by omega
   go_wp2_with fail
   go_ret
   exact⟨_,ds,rfl,HO.out,by have:=HLN.out;omega,HDS.out,HM.out.rd.more (by omega),HM.out.gr⟩
end Go.Proofs.YtfhjcacfchkdpaaGreatDoor
