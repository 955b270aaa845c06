/- What the laws of this seat share. -/
import Derived.BigQuiet
import Derived.Deep.QuietTactic
import Derived.OwnWalk
import Derived.Deep.RegionWith
import Derived.IntWalk
import Derived.Deep.Cut
import Derived.Deep.CutRange
import Derived.Maps.AppendAt
import Derived.Deep.RegionHeld3
import Derived.Test.YtfhjcacfchkdpaaGreatDoorU24
import Derived.Test.YtfhjcacfchkdpaaGreatDoorU28
import Derived.Test.YtfhjcacfchkdpaaGreatDoorU30
import Derived.Test.YtfhjcacfchkdpaaGreatDoorV2
set_option maxRecDepth 100000
set_option maxHeartbeats 32000000
namespace Go.Proofs.YtfhjcacfchkdpaaGreatDoor
open Go.RowKit
theorem PX(g u:Nat)(n:Int)(w:World)(hn:n≤1048576)(hn0:0≤n)(hu:u≤700000)(hR:Rd w g u):
  Calls Tryz.prog 46 #[.pointer (some ⟨g,0,none⟩),.int .i64 n] w (RU n g (u+300) w):=by
 have hlt:=hR.lt
 have HS:Hid (aD (w.alloc (.cells #[.int .i64 0,.int .i64 0,.slice none 0 0,.slice none 0 0] 33)) w.heap.size 33 [.int .i64 0,.int .i64 0,.slice none 0 0,.slice none 0 0]):=aD.new w _ [.int .i64 0,.int .i64 0,.slice none 0 0,.slice none 0 0]
 have HM:Hid (DM g u w (w.alloc (.cells #[.int .i64 0,.int .i64 0,.slice none 0 0,.slice none 0 0] 33))):=(DM.start hR).alloc _
 have HODD:Hid (∀(W:World) (v:Nat),v≤1048576→Rd W g v→Calls Tryz.prog 47 #[.pointer (some ⟨g,0,none⟩),.int .i64 n] W (J7 n g (v+1) W)):=fun W v hv h=>E4 W hn hn0 hv h
 clear hR
 go_enter Tryz.func46,Tryz.ntmps46
 go_upto_region 1 with fail
 obtain⟨W0,hW0⟩:∃W,w.alloc (.cells #[.int .i64 0,.int .i64 0,.slice none 0 0,.slice none 0 0] 33)=W:=⟨_,rfl⟩
 rw[hW0] at HS HM⊢
 clear hW0
 have hs0:=HS.out.lt
 go_wp2_with fail
 refine(cE g u 5 _ (by omega) (by omega) (by omega) (HM.out.rd.alloc _)).mono ?_
 rintro e w1 ⟨k,rfl,hk0,hk1,hr,hg⟩
 have hk5:=hk1 (by omega)
 obtain⟨x,hx,hcell⟩:=RP [1,2,2,2,3] hg (by omega) hk0 (hk1 (by omega))
 have hx3:1≤x∧x≤3:=by simp only[List.mem_cons,List.not_mem_nil,or_false] at hx;omega
 have HM1:=zH ((HM.out.alloc (.cells #[.int .i64 1,.int .i64 2,.int .i64 2,.int .i64 2,.int .i64 3] 3)).next hr hg)
 have HS1:=zH ((HS.out.alloc (.cells #[.int .i64 1,.int .i64 2,.int .i64 2,.int .i64 2,.int .i64 3] 3)).grownO hg (fun j e=>by cases e;omega))
 clear hr hg hk1 hx
 go_wp2_with fail
 refine(QN x _).mono ?_
 rintro e w2 ⟨rfl,hb⟩
 rw[show yU x=x by unfold yU;rw[if_pos hx3],show yW x=aJ x by unfold yW;rw[if_pos hx3]]
 have hok:dP ⟨x,⟨aJ x,[]⟩,[]⟩=true:=by
  have:=(U8 hx3.1 hx3.2).1
  unfold FB at this
  rw[if_pos hx3] at this
  exact this
 obtain⟨q,hq⟩:∃q,aJ x=q:=⟨_,rfl⟩
 rw[hq] at hok⊢
 obtain⟨h,hh⟩:∃h,w2.heap.size=h:=⟨_,rfl⟩
 have HV2:Hid (TV (w2.alloc (.cells #[.int .i64 x,.int .i64 q,.slice none 0 0,.slice none 0 0] 33)) h ⟨x,⟨q,[]⟩,[]⟩ none 0 0 none 0 0):=by
  rw[←hh]
  exact⟨aD.new w2 _ [.int .i64 x,.int .i64 q,.slice none 0 0,.slice none 0 0],f9.new x q⟩
 have HM2:=zH ((HM1.out.below hb).alloc (.cells #[.int .i64 x,.int .i64 q,.slice none 0 0,.slice none 0 0] 33))
 have HS2:=zH ((HS1.out.below hb).alloc (.cells #[.int .i64 x,.int .i64 q,.slice none 0 0,.slice none 0 0] 33))
 have hwh:w.heap.size<h:=by rw[←hh];exact(HS1.out.below hb).lt
 clear hb hcell hq HM1 HS1 HM HS hx3 hk0 hk5
 go_upto_region 2 with fail
 obtain⟨X,hX⟩:∃W,w2.alloc (.cells #[.int .i64 x,.int .i64 q,.slice none 0 0,.slice none 0 0] 33)=W:=⟨_,rfl⟩
 rw[hX] at HV2 HM2 HS2⊢
 try rw[hh]
 clear hX hh
 go_wp2_with fail
 refine(cE g _ 5 _ (by omega) (by omega) (by omega) HM2.out.rd).mono ?_
 rintro e w3 ⟨k0,rfl,hk0,hk1,hr,hg⟩
 have hk5:=hk1 (by omega)
 have HV3:=zH (HV2.out.grown hg (by omega))
 have HM3:=zH (HM2.out.next hr hg)
 have HS3:=zH (HS2.out.grownO hg (fun j e=>by cases e;omega))
 obtain⟨kk,rfl⟩:∃kk:Nat,k0=(kk:Int):=⟨k0.toNat,by omega⟩
 clear hr hg hk1 HV2 HM2 HS2
 go_wp2_with fail
 go_loopw [6] (fun i wr=>∃(k:Nat) (T:aL) (A:Option Addr) (n1 c1:Nat) (B:Option Addr) (m1 d1:Nat),k≤4∧i= .int .i64 k∧Hid (dP T=true∧cD T)∧Hid (TV wr h T A n1 c1 B m1 d1)∧Hid (aD wr w.heap.size 33 [.int .i64 0,.int .i64 0,.slice none 0 0,.slice none 0 0])∧Hid (DM g (u+2+51*(4-k)) w wr)) (fun i _=>(Go.RowKit.intOf i).toNat)
 case atStart=>exact⟨kk,_,_,_,_,_,_,_,by omega,rfl,⟨hok,lQ hok⟩,HV3,HS3,HM3.out.more (by omega)⟩
 case round=>
  obtain⟨k,T,A,n1,c1,B,m1,d1,hk,rfl,HT,HV,HS,HM⟩:=hrel
  have hc0:=HV.out.box.cell (i:=0) (v:= .int .i64 T.things) rfl
  have hc1:=HV.out.box.cell (i:=1) (v:= .int .i64 T.now.known) rfl
  have hc2:=HV.out.box.cell (i:=2) (v:= .slice A n1 c1) rfl
  have hc3:=HV.out.box.cell (i:=3) (v:= .slice B m1 d1) rfl
  have hwr:w.heap.size≤wr.heap.size:=HM.out.gr.size
  by_cases hpos:0<k
  ·have hd:decide ((0:Int)<(k:Int))=true:=decide_eq_true (by omega)
   obtain⟨v,hv⟩:∃v,u+2+51*(4-k)=v:=⟨_,rfl⟩
   have hvb:v≤701000:=by omega
   rw[hv] at HM
   have HVE:Hid (v+51=u+2+51*(4-(k-1))):=by unfold Hid;omega
   have HDEED:Hid (∀W,Rd W g v→Calls Tryz.prog 88 #[.pointer (some ⟨g,0,none⟩),.agg #[.int .i64 T.things,.int .i64 T.now.known,.slice A n1 c1,.slice B m1 d1]] W (FJ g (v+50) W)):=fun W hW=>FD g v _ _ _ _ A B n1 c1 m1 d1 rfl rfl W (by omega) hW
   have HDO:Hid (∀(W:World) (kd:Int) (tx:ByteArray),bN W T A n1 c1 B m1 d1→tx.size≤100→Calls Tryz.prog 61 #[.agg #[.int .i64 T.things,.int .i64 T.now.known,.slice A n1 c1,.slice B m1 d1],.agg #[.int .i64 kd,.string tx]] W (rB (dN T kd tx).1 (dN T kd tx).2 W)):=fun W kd tx hW hx=>BS T A B n1 c1 m1 d1 kd tx W hW HT.out.2 (by omega)
   have hhr:h<wr.heap.size:=HV.out.box.lt
   clear hv
   go_upto_region 5 with fail
   go_cut [7,8] from 17 to 30 (fun s7 s8 wx=>BV g (v+50) h w.heap.size w wr T A n1 c1 B m1 d1 s7 s8 wx)
   case first=>
    go_region_held3 (fun w' =>w'.cell? ⟨h,0,none⟩=some (.int .i64 T.things)∧w'.cell? ⟨h,1,none⟩=some (.int .i64 T.now.known)∧w'.cell? ⟨h,2,none⟩=some (.slice A n1 c1)∧w'.cell? ⟨h,3,none⟩=some (.slice B m1 d1))
     (first|exact HK3.out|exact HK2.out|exact HK1.out|exact⟨hc0,hc1,hc2,hc3⟩|go_keep)
     (first
      |(go_at_call 88;refine(HDEED.out _ ?_).mono ?_;(first|exact HM.out.rd.drewN 1|exact(HM.out.rd.alloc _).drewN 1);rintro e w5 ⟨kd,tx,rfl,hsz,hr,hg⟩;have hG5:wr.grownBy w5 (some g):=(by first|exact(eM (World.grownBy.refl wr (some g)) 1).trans hg|exact(bB (eM (World.grownBy.refl wr (some g)) 1) _).trans hg);(first|have HZ5:Hid (aD w5 wr.heap.size 33 [.int .i64 0,.int .i64 0,.slice none 0 0,.slice none 0 0]):=(aD.new wr.drew 33 [.int .i64 0,.int .i64 0,.slice none 0 0,.slice none 0 0]).grownO hg (fun j e=>by cases e;simp only[World.drew];omega)|skip);have HM5:Hid (DM g (v+50) w w5):=⟨hr,HM.out.gr.trans hG5⟩;have HV5:=zH (HV.out.grown hG5 (by omega));have HG5:=zH hG5;have HK1:=zH (And.intro (HV5.out.box.cell (i:=0) (v:= .int .i64 T.things) rfl) (And.intro (HV5.out.box.cell (i:=1) (v:= .int .i64 T.now.known) rfl) (And.intro (HV5.out.box.cell (i:=2) (v:= .slice A n1 c1) rfl) (HV5.out.box.cell (i:=3) (v:= .slice B m1 d1) rfl))));clear hr hg hG5)
      |(go_at_call 61;have HZQ:=HZ5;refine(HDO.out w5 kd tx ?_ hsz).mono ?_;(exact HV5.out.own.1.at_);rintro e w6 ⟨A2,n2,c2,B2,m2,d2,rfl,hown,hb⟩;obtain⟨hx1,_,hx3⟩:=xJ kd tx HT.out.1;generalize dN T kd tx=XB at hown hx1 hx3⊢;have hG6:wr.grownBy w6 (some g):=fU HG5.out hb;have hM6:DM g (v+50) w w6:=HM5.out.below hb;have hs5:wr.heap.size≤w5.heap.size:=HG5.out.size;have hfin:=y8 hlt (by omega) (Nat.le_refl _) hwr hM6 hG6 HV.out HS.out hx1 hx3 hown (by omega) XB.2;have HV6:=zH (HV.out.grown hG6 (by omega));have HK2:=zH (And.intro (HV6.out.box.cell (i:=0) (v:= .int .i64 T.things) rfl) (And.intro (HV6.out.box.cell (i:=1) (v:= .int .i64 T.now.known) rfl) (And.intro (HV6.out.box.cell (i:=2) (v:= .slice A n1 c1) rfl) (HV6.out.box.cell (i:=3) (v:= .slice B m1 d1) rfl))));have hz6:=HZQ.out.below hb;have HFIN:=zH (hfin.2 _ hz6 (Nat.le_refl _) (by have:=HZQ.out.lt;omega));obtain⟨⟨ha0,ha1,ha2,ha3,ha4,ha5,ha6,ha7⟩,⟨hb2,hb3⟩,⟨hb4,hb5⟩,⟨hb6,hb7⟩,_⟩:=hz6.store4 (.int .i64 XB.1.things) (.int .i64 XB.1.now.known) (.slice A2 n2 c2) (.slice B2 m2 d2);have hv7:=HV6.out.box.other4 (g:=wr.heap.size) (by omega) (.int .i64 XB.1.things) (.int .i64 XB.1.now.known) (.slice A2 n2 c2) (.slice B2 m2 d2);have HK3:=zH (And.intro (hv7.cell (i:=0) (v:= .int .i64 T.things) rfl) (And.intro (hv7.cell (i:=1) (v:= .int .i64 T.now.known) rfl) (And.intro (hv7.cell (i:=2) (v:= .slice A n1 c1) rfl) (hv7.cell (i:=3) (v:= .slice B m1 d1) rfl))));clear hown hb hx1 hx3 hG6 hM6 hfin hz6 hv7)
      |(go_at_call 61;refine(HDO.out (w5.alloc (.cells #[.int .i64 0,.int .i64 0,.slice none 0 0,.slice none 0 0] 33)) kd tx ?_ hsz).mono ?_;(exact(HV5.out.own.1.keep (sL _)).at_);rintro e w6 ⟨A2,n2,c2,B2,m2,d2,rfl,hown,hb⟩;obtain⟨hx1,_,hx3⟩:=xJ kd tx HT.out.1;generalize dN T kd tx=XB at hown hx1 hx3⊢;have hG6:wr.grownBy w6 (some g):=fU (bB HG5.out _) hb;have hM6:DM g (v+50) w w6:=(HM5.out.alloc _).below hb;have hs5:wr.heap.size≤w5.heap.size:=HG5.out.size;have hfin:=y8 hlt (by omega) (Nat.le_refl _) hwr hM6 hG6 HV.out HS.out hx1 hx3 hown (by rw[World.size_alloc];omega) XB.2;have HV6:=zH (HV.out.grown hG6 (by omega));have HK2:=zH (And.intro (HV6.out.box.cell (i:=0) (v:= .int .i64 T.things) rfl) (And.intro (HV6.out.box.cell (i:=1) (v:= .int .i64 T.now.known) rfl) (And.intro (HV6.out.box.cell (i:=2) (v:= .slice A n1 c1) rfl) (HV6.out.box.cell (i:=3) (v:= .slice B m1 d1) rfl))));have hz6:=(aD.new w5 33 [.int .i64 0,.int .i64 0,.slice none 0 0,.slice none 0 0]).below hb;have HFIN:=zH (hfin.2 _ hz6 hs5 (by rw[World.size_alloc];omega));obtain⟨⟨ha0,ha1,ha2,ha3,ha4,ha5,ha6,ha7⟩,⟨hb2,hb3⟩,⟨hb4,hb5⟩,⟨hb6,hb7⟩,_⟩:=hz6.store4 (.int .i64 XB.1.things) (.int .i64 XB.1.now.known) (.slice A2 n2 c2) (.slice B2 m2 d2);have hv7:=HV6.out.box.other4 (g:=w5.heap.size) (by omega) (.int .i64 XB.1.things) (.int .i64 XB.1.now.known) (.slice A2 n2 c2) (.slice B2 m2 d2);have HK3:=zH (And.intro (hv7.cell (i:=0) (v:= .int .i64 T.things) rfl) (And.intro (hv7.cell (i:=1) (v:= .int .i64 T.now.known) rfl) (And.intro (hv7.cell (i:=2) (v:= .slice A n1 c1) rfl) (hv7.cell (i:=3) (v:= .slice B m1 d1) rfl))));clear hown hb hx1 hx3 hG6 hM6 hfin hz6 hv7)
      |(go_at_call 61;refine(HDO.out w5 kd tx ?_ hsz).mono ?_;(exact HV5.out.own.1.at_);rintro e w6 ⟨A2,n2,c2,B2,m2,d2,rfl,hown,hb⟩;obtain⟨hx1,_,hx3⟩:=xJ kd tx HT.out.1;generalize dN T kd tx=XB at hown hx1 hx3⊢;have hG6:wr.grownBy w6 (some g):=fU HG5.out hb;have hM6:DM g (v+50) w w6:=HM5.out.below hb;have hs5:wr.heap.size≤w5.heap.size:=HG5.out.size;have hfin:=y8 hlt (by omega) (Nat.le_refl _) hwr hM6 hG6 HV.out HS.out hx1 hx3 hown (by omega) XB.2;have HV6:=zH (HV.out.grown hG6 (by omega));have HK2:=zH (And.intro (HV6.out.box.cell (i:=0) (v:= .int .i64 T.things) rfl) (And.intro (HV6.out.box.cell (i:=1) (v:= .int .i64 T.now.known) rfl) (And.intro (HV6.out.box.cell (i:=2) (v:= .slice A n1 c1) rfl) (HV6.out.box.cell (i:=3) (v:= .slice B m1 d1) rfl))));have hv7:=HV6.out.box.alloc (.cells #[.int .i64 XB.1.things,.int .i64 XB.1.now.known,.slice A2 n2 c2,.slice B2 m2 d2] 33);have HK3:=zH (And.intro (hv7.cell (i:=0) (v:= .int .i64 T.things) rfl) (And.intro (hv7.cell (i:=1) (v:= .int .i64 T.now.known) rfl) (And.intro (hv7.cell (i:=2) (v:= .slice A n1 c1) rfl) (hv7.cell (i:=3) (v:= .slice B m1 d1) rfl))));have HFIN:=zH hfin.1;clear hv7 hown hb hx1 hx3 hG6 hM6 hfin))
    all_goals
     go_wp2_with fail
     go_meet
     exact HFIN.out
   case rest=>
    obtain⟨b7,X,b,A2,n2,c2,B2,m2,d2,rfl,rfl,hok,hsm,hb7,HB7,HX,HV2,HS2,HM2⟩:=hcut
    clear hc0 hc1 hc2 hc3 HDEED HDO
    cases b
    ·go_wp2_with fail
     go_roundw
     case rel=>exact⟨k-1,T,A,n1,c1,B,m1,d1,by omega,by go_num,HT,HV2,HS2,HM2.out.more (by have:=HVE.out;omega)⟩
     case measure=>simp[Go.RowKit.intOf];omega
    ·have hz0:=HB7.out.cell (i:=0) (v:= .int .i64 X.things) rfl
     have hz1:=HB7.out.cell (i:=1) (v:= .int .i64 X.now.known) rfl
     have hz2:=HB7.out.cell (i:=2) (v:= .slice A2 n2 c2) rfl
     have hz3:=HB7.out.cell (i:=3) (v:= .slice B2 m2 d2) rfl
     obtain⟨⟨ha0,ha1,ha2,ha3,ha4,ha5,ha6,ha7⟩,⟨hb2,hb3⟩,⟨hb4,hb5⟩,⟨hb6,hb7⟩,_⟩:=HV2.out.box.store4 (.int .i64 X.things) (.int .i64 X.now.known) (.slice A2 n2 c2) (.slice B2 m2 d2)
     obtain⟨hv,hs,hm⟩:=VX hlt (by omega) (by omega) HV2.out HX.out HS2.out HM2.out
     have HV3:=zH hv
     have HS3:=zH hs
     have HM3:=zH hm
     clear hv hs hm
     go_wp2_with fail
     go_roundw
     case rel=>exact⟨k-1,X,A2,n2,c2,B2,m2,d2,by omega,by go_num,⟨hok,hsm⟩,HV3,HS3,HM3.out.more (by have:=HVE.out;omega)⟩
     case measure=>simp[Go.RowKit.intOf];omega
  ·obtain rfl:k=0:=by omega
   clear hpos
   go_wp2_with fail
   refine(HODD.out _ _ (by omega) HM.out.rd).mono ?_
   rintro e w4 ⟨b,rfl,hbn,hr,hg⟩
   have HV4:=zH (HV.out.grown hg (by omega))
   have HM4:=zH (HM.out.next hr hg)
   have HS4:=zH (HS.out.grownO hg (fun j e=>by cases e;omega))
   clear hr hg hc0 hc1 hc2 hc3 HODD
   cases b
   ·have hc0:=HV4.out.box.cell (i:=0) (v:= .int .i64 T.things) rfl
    have hc1:=HV4.out.box.cell (i:=1) (v:= .int .i64 T.now.known) rfl
    have hc2:=HV4.out.box.cell (i:=2) (v:= .slice A n1 c1) rfl
    have hc3:=HV4.out.box.cell (i:=3) (v:= .slice B m1 d1) rfl
    obtain⟨⟨ha0,ha1,ha2,ha3,ha4,ha5,ha6,ha7⟩,⟨hb2,hb3⟩,⟨hb4,hb5⟩,⟨hb6,hb7⟩,HOUT⟩:=HS4.out.store4 (.int .i64 T.things) (.int .i64 T.now.known) (.slice A n1 c1) (.slice B m1 d1)
    have HFIN:=zH (tY (HM4.out.more (v:=u+300) (by omega)) hlt HV4.out.own.1 (by omega) (.int .i64 T.things) (.int .i64 T.now.known) (.slice A n1 c1) (.slice B m1 d1))
    go_wp2_with fail
    refine bodyPost_ret_by (gV (b:=w.heap.size) rfl rfl HOUT) rfl ⟨T,A,n1,c1,B,m1,d1,rfl,HFIN.out.1,HT.out.2,(fun _=>HT.out.1),HFIN.out.2⟩
   ·have HN:Hid (n≠0):=fun e=>by have:=hbn e;cases this
    clear hbn
    go_wp2_with fail
    refine(cE g _ 3 _ (by omega) (by omega) (by omega) HM4.out.rd).mono ?_
    rintro e w5 ⟨k3,rfl,hk30,hk31,hr,hg⟩
    have HV5:=zH (HV4.out.grown hg (by omega))
    have HM5:=zH (HM4.out.next hr hg)
    have HS5:=zH (HS4.out.grownO hg (fun j e=>by cases e;omega))
    clear hr hg hk31
    have hc0:=HV5.out.box.cell (i:=0) (v:= .int .i64 T.things) rfl
    have hc1:=HV5.out.box.cell (i:=1) (v:= .int .i64 T.now.known) rfl
    have hc2:=HV5.out.box.cell (i:=2) (v:= .slice A n1 c1) rfl
    have hc3:=HV5.out.box.cell (i:=3) (v:= .slice B m1 d1) rfl
    have hf0:=HV5.out.box.frozen 0
    have hf1:=HV5.out.box.frozen 1
    have hf2:=HV5.out.box.frozen 2
    by_cases h30:k3=0
    ·have hkb:(k3==0)=true:=by rw[h30];rfl
     clear h30
     obtain⟨hi,hs,hm⟩:=EO (i:=0) (v:= .int .i64 4) hlt (by omega) (by omega) HV5.out.own.1 HS5.out HM5.out
     have HI6:=zH hi
     have HS6:=zH hs
     have HM6:=zH hm
     have HX6:=zH (HV5.out.box.set 0 (.int .i64 4))
     clear hi hs hm
     go_upto_region 15 with fail
     obtain⟨X6,hX6⟩:∃W,w5.setCell ⟨h,0,none⟩ (.int .i64 4)=W:=⟨_,rfl⟩
     rw[hX6] at HI6 HS6 HM6 HX6⊢
     clear hX6 hc0 hc1 hc2 hc3 hf0 hf1 hf2
     have hc0:=HX6.out.cell (i:=0) rfl
     have hc1:=HX6.out.cell (i:=1) rfl
     have hc2:=HX6.out.cell (i:=2) rfl
     have hc3:=HX6.out.cell (i:=3) rfl
     obtain⟨⟨ha0,ha1,ha2,ha3,ha4,ha5,ha6,ha7⟩,⟨hb2,hb3⟩,⟨hb4,hb5⟩,⟨hb6,hb7⟩,HOUT⟩:=HS6.out.store4 (.int .i64 4) (.int .i64 T.now.known) (.slice A n1 c1) (.slice B m1 d1)
     have HFIN:=zH (tY (HM6.out.more (v:=u+300) (by omega)) hlt (HI6.out.same 4 T.now.known) (by omega) (.int .i64 4) (.int .i64 T.now.known) (.slice A n1 c1) (.slice B m1 d1))
     go_wp2_with fail
     refine bodyPost_ret_by (gV (b:=w.heap.size) rfl rfl HOUT) rfl ⟨⟨4,⟨T.now.known,T.now.op⟩,T.past⟩,A,n1,c1,B,m1,d1,rfl,HFIN.out.1,(HT.out.2.same 4 T.now.known),(fun e=>absurd e HN.out),HFIN.out.2⟩
    by_cases h31:k3=1
    ·have hkb:(k3==0)=false:=by rw[beq_eq_false_iff_ne];exact h30
     have hkc:(k3==1)=true:=by rw[h31];rfl
     clear h30 h31
     obtain⟨hi,hs,hm⟩:=EO (i:=1) (v:= .int .i64 0) hlt (by omega) (by omega) HV5.out.own.1 HS5.out HM5.out
     have HI6:=zH hi
     have HS6:=zH hs
     have HM6:=zH hm
     have HX6:=zH (HV5.out.box.set 1 (.int .i64 0))
     clear hi hs hm
     go_upto_region 15 with fail
     obtain⟨X6,hX6⟩:∃W,w5.setCell ⟨h,1,none⟩ (.int .i64 0)=W:=⟨_,rfl⟩
     rw[hX6] at HI6 HS6 HM6 HX6⊢
     clear hX6 hc0 hc1 hc2 hc3 hf0 hf1 hf2
     have hc0:=HX6.out.cell (i:=0) rfl
     have hc1:=HX6.out.cell (i:=1) rfl
     have hc2:=HX6.out.cell (i:=2) rfl
     have hc3:=HX6.out.cell (i:=3) rfl
     obtain⟨⟨ha0,ha1,ha2,ha3,ha4,ha5,ha6,ha7⟩,⟨hb2,hb3⟩,⟨hb4,hb5⟩,⟨hb6,hb7⟩,HOUT⟩:=HS6.out.store4 (.int .i64 T.things) (.int .i64 0) (.slice A n1 c1) (.slice B m1 d1)
     have HFIN:=zH (tY (HM6.out.more (v:=u+300) (by omega)) hlt (HI6.out.same T.things 0) (by omega) (.int .i64 T.things) (.int .i64 0) (.slice A n1 c1) (.slice B m1 d1))
     go_wp2_with fail
     refine bodyPost_ret_by (gV (b:=w.heap.size) rfl rfl HOUT) rfl ⟨⟨T.things,⟨0,T.now.op⟩,T.past⟩,A,n1,c1,B,m1,d1,rfl,HFIN.out.1,(HT.out.2.same T.things 0),(fun e=>absurd e HN.out),HFIN.out.2⟩
    ·have hkb:(k3==0)=false:=by rw[beq_eq_false_iff_ne];exact h30
     have hkc:(k3==1)=false:=by rw[beq_eq_false_iff_ne];exact h31
     have hol:T.now.op.length≤4:=(pV ((cT aH).1 HT.out.1).1).1
     have HSZ:Hid (h+1≤w5.heap.size):=HV5.out.box.lt
     have HOL:Hid (T.now.op.length≤1048576):=by unfold Hid;omega
     clear h30 h31 hc0 hc1 hc3 hf0 hf1 hf2
     go_upto_region 15 with(at_builtin;refine QA (W:=w5) rfl _ _ rfl (h+1) (.slice A n1 c1) T.now.op ⟨#[40,97]⟩ rfl HV5.out.own.2.1 rfl HOL.out HSZ.out ?_;intro v1 w6 ho hg hcell;obtain⟨A3,c3,rfl,_⟩:=ho.form;obtain⟨past,hi6,hs6⟩:=VG HV5.out.own HT.out.2 (by decide) (by omega) ho hg hcell;have hb6:=(HV5.out.box.alloc _).grownO hg (fun j e=>by have:=(HV5.out.own.2.1.lt e).1;omega);have HS6:=zH ((HS5.out.alloc _).grownO hg (fun j e=>by have:=(HV5.out.own.2.1.lt e).1;omega));have HM6:=zH ((HM5.out.alloc _).fresh hg (fun j e=>by have:=(HV5.out.own.2.1.lt e).1;omega) hlt);obtain⟨n3,hn3⟩:∃n3,(T.now.op++[(⟨#[40,97]⟩:ByteArray)]).length=n3:=⟨_,rfl⟩;rw[hn3] at hi6⊢;have hd2:=hb6.cell (i:=2) (v:= .slice A n1 c1) rfl;have hf2:=hb6.frozen 2;have HX6:=zH (hb6.set 2 (.slice A3 n3 c3));have HI6:=zH hi6;have HSM:=zH hs6;clear ho hg hcell hn3 hi6 hs6 hb6)
     obtain⟨hi,hs,hm⟩:=EO (i:=2) (v:= .slice A3 n3 c3) hlt (by omega) (by omega) HI6.out HS6.out HM6.out
     have HI7:=zH hi
     have HS7:=zH hs
     have HM7:=zH hm
     obtain⟨X7,hX7⟩:∃W,w6.setCell ⟨h,2,none⟩ (.slice A3 n3 c3)=W:=⟨_,rfl⟩
     rw[hX7] at HI7 HS7 HM7 HX6⊢
     clear hi hs hm hX7 hd2 hf2 hc2
     have hc0:=HX6.out.cell (i:=0) rfl
     have hc1:=HX6.out.cell (i:=1) rfl
     have hc2:=HX6.out.cell (i:=2) rfl
     have hc3:=HX6.out.cell (i:=3) rfl
     obtain⟨⟨ha0,ha1,ha2,ha3,ha4,ha5,ha6,ha7⟩,⟨hb2,hb3⟩,⟨hb4,hb5⟩,⟨hb6,hb7⟩,HOUT⟩:=HS7.out.store4 (.int .i64 T.things) (.int .i64 T.now.known) (.slice A3 n3 c3) (.slice B m1 d1)
     have HFIN:=zH (tY (HM7.out.more (v:=u+300) (by omega)) hlt HI7.out (by omega) (.int .i64 T.things) (.int .i64 T.now.known) (.slice A3 n3 c3) (.slice B m1 d1))
     go_wp2_with fail
     refine bodyPost_ret_by (gV (b:=w.heap.size) rfl rfl HOUT) rfl ⟨⟨T.things,⟨T.now.known,T.now.op++[(⟨#[40,97]⟩:ByteArray)]⟩,past⟩,A3,n3,c3,B,m1,d1,rfl,HFIN.out.1,HSM.out,(fun e=>absurd e HN.out),HFIN.out.2⟩
theorem nL{w:World}{b lo:Nat}(h:b<lo)(a b' c d:Value):aX lo w ((((w.setCell ⟨b,0,none⟩ a).setCell ⟨b,1,none⟩ b').setCell ⟨b,2,none⟩ c).setCell ⟨b,3,none⟩ d):=by
 have hset:∀(W:World) (i:Nat) (v:Value),aX lo W (W.setCell ⟨b,i,none⟩ v):=fun W i v=>aX.set h
 exact(((hset w 0 a).trans (hset _ 1 b') (Nat.le_refl _)).trans (hset _ 2 c) (Nat.le_refl _)).trans (hset _ 3 d) (Nat.le_refl _)
def iZ(wr:World)(bad:Nat→Prop)(T:aL)(A:Option Addr)(n c:Nat)(B:Option Addr)(m d:Nat):Prop:=∃wb lo,dL wb lo T A n c B m d∧aX lo wb wr∧∀k,bad k→k<lo∨wb.heap.size≤k
section
variable {wr w' :World} {bad bad' :Nat→Prop} {T:aL} {A B:Option Addr} {n c m d:Nat}
theorem iZ.at_(h:iZ wr bad T A n c B m d):bN wr T A n c B m d:=by
 obtain⟨wb,lo,h1,h2,_⟩:=h
 exact(h1.keep h2).at_
theorem iZ.grown{row:Option Nat}(h:iZ wr bad T A n c B m d)(hg:wr.grownBy w' row)(hr:∀k,row=some k→bad k):iZ w' bad T A n c B m d:=by
 obtain⟨wb,lo,h1,h2,h3⟩:=h
 refine⟨wb,lo,h1,⟨Nat.le_trans h2.1 hg.size,fun b hb1 hb2=>(hg.block b (Nat.lt_of_lt_of_le hb2 h2.1) fun e=> ?_).trans (h2.2 b hb1 hb2)⟩,h3⟩
 have:=h3 b (hr b e.symm)
 omega
theorem iZ.below(h:iZ wr bad T A n c B m d)(hb:Below wr.heap.size wr w'):iZ w' bad T A n c B m d:=h.grown (row:=none) ⟨hb.os,hb.tape,hb.output,hb.size,fun k hk _=>hb.block k hk⟩ (fun k e=>by cases e)
theorem iZ.set{b i:Nat}{v:Value}(h:iZ wr bad T A n c B m d)(hb:bad b):iZ (wr.setCell ⟨b,i,none⟩ v) bad T A n c B m d:=
 h.grown (row:=some b) (gE (World.grownBy.refl wr (some b)) i v) (fun k e=>by cases e;exact hb)
theorem iZ.more(h:iZ wr bad T A n c B m d)(hb:∀k,bad' k→bad k∨wr.heap.size≤k):iZ wr bad' T A n c B m d:=by
 obtain⟨wb,lo,h1,h2,h3⟩:=h
 refine⟨wb,lo,h1,h2,fun k hk=> ?_⟩
 rcases hb k hk with h|h
 ·exact h3 k h
 ·have:=h2.1;omega
theorem iZ.new{lo:Nat}(h:dL wr lo T A n c B m d)(hb:∀k,bad k→k<lo):iZ wr bad T A n c B m d:=⟨wr,lo,h,aX.refl _ _,fun k hk=> .inl (hb k hk)⟩
end
theorem bU.set{w:World}{base b i:Nat}{v u:Value}{ds:List bK}{T:TypeId}{cs:List Value}(h:bU w base v ds)(hb:aD w b T cs)(hT:T≠41):bU (w.setCell ⟨b,i,none⟩ u) base v ds:=by
 refine h.kept (row:=some b) (gE (World.grownBy.refl w (some b)) i u) ?_
 cases e:v.ownBlock with
 |none=>exact .inl rfl
 |some k=>right;intro e2;injection e2 with e2;exact iP hb h hT k e e2
theorem bU.lt{w:World}{base:Nat}{v:Value}{ds:List bK}(h:bU w base v ds){k:Nat}(hk:v.ownBlock=some k):base≤k∧k<w.heap.size:=World.ownsRow.lt h k hk
def SE(deep:Int)(g u:Nat)(t:Int)(w:World):Prop:=Calls Tryz.prog 97 #[.pointer (some ⟨g,0,none⟩),.int .i64 t,.int .i64 deep] w (xC 1 g (u+3) w)
theorem O4(g u:Nat)(t:Int)(w:World)(hu:u≤1000000)(hR:Rd w g u):SE 0 g u t w:=by
 have HR:=zH hR
 have hlt:=hR.lt
 obtain⟨m,hm⟩:∃m,max (min t 3) 1=m:=⟨_,rfl⟩
 have hm1:1≤m:=by omega
 have hm3:m≤3:=by omega
 unfold SE
 clear hR
 go_enter Tryz.func97,Tryz.ntmps97
 go_wp2_with fail
 refine(cE g u _ _ (by omega) (by omega) (by omega) (HR.out.alloc _)).mono ?_
 rintro e w1 ⟨k,rfl,hk0,hk1,hr,hg⟩
 have hk8:=hk1 (by omega)
 have hsz:w.heap.size<w1.heap.size:=by have:=hg.size;simp at this;omega
 obtain⟨q,hq⟩:∃q,k / 7=q:=⟨_,rfl⟩
 have hq0:0≤q:=by omega
 have hq1:q≤1:=by omega
 have HR1:=zH hr
 have HG1:=zH hg
 clear hr hg hk1
 go_wp2_with fail
 refine(cE g (u+1) _ _ (by omega) (by omega) (by omega) HR1.out).mono ?_
 rintro e w2 ⟨k2,rfl,hk20,hk21,hr,hg⟩
 have hk26:=hk21 (by omega)
 obtain⟨x,hx,hcell⟩:=pR j8 (HG1.out.trans hg) hlt hk20 (by simp[j8];omega)
 have HS:=zH (l0 hx)
 have hk6:k2<6:=by omega
 have HP:Hid (Rd w2 g (u+3)∧w.grownBy w2 (some g)):=⟨hr.more (by omega),(bB (World.grownBy.refl w _) _).trans (HG1.out.trans hg)⟩
 clear hr hg hx hk21
 go_wp2_with fail
 go_ret
 exact⟨x,rfl,by rw[HS.out];omega,by rw[HS.out];omega,HP.out⟩
def K8(d:Int)(hi us b:Nat):Prop:=∀(g u:Nat) (t:Int) (w:World),u≤b→Rd w g u→Calls Tryz.prog 97 #[.pointer (some ⟨g,0,none⟩),.int .i64 t,.int .i64 d] w (xC hi g (u+us) w)
theorem kW:K8 0 1 3 1000000:=fun g u t w hu hR=>O4 g u t w (by omega) hR
theorem k9:K8 1 5 11 950000:=by
 intro g u t w hu hR
 have HR:=zH hR
 have hlt:=hR.lt
 clear hR
 obtain⟨m,hm⟩:∃m,max (min t 3) 1=m:=⟨_,rfl⟩
 have hm1:1≤m:=by omega
 have hm3:m≤3:=by omega
 go_enter Tryz.func97,Tryz.ntmps97
 go_wp2_with fail
 refine(cE g u _ _ (by omega) (by omega) (by omega) HR.out).mono ?_
 rintro e w0 ⟨k0,rfl,hk00,hk01,hr,hg⟩
 have hk04:=hk01 (by omega)
 have hlt0:g<w0.heap.size:=hr.lt
 have HR0:=zH hr
 have HG0:=zH hg
 clear hr hg hk01
 by_cases hz:k0=0
 ·subst hz
  go_wp2_with fail
  refine(cE g (u+1) _ _ (by omega) (by omega) (by omega) (HR0.out.alloc _)).mono ?_
  rintro e w1 ⟨k,rfl,hk0,hk1,hr,hg⟩
  have hk8:=hk1 (by omega)
  have hsz:w0.heap.size<w1.heap.size:=by have:=hg.size;simp at this;omega
  obtain⟨q,hq⟩:∃q,k / 7=q:=⟨_,rfl⟩
  have hq0:0≤q:=by omega
  have hq1:q≤1:=by omega
  have HR1:=zH hr
  have HG1:=zH hg
  clear hr hg hk1
  go_wp2_with fail
  refine(cE g (u+2) _ _ (by omega) (by omega) (by omega) HR1.out).mono ?_
  rintro e w2 ⟨k2,rfl,hk20,hk21,hr,hg⟩
  have hk26:=hk21 (by omega)
  obtain⟨x,hx,hcell⟩:=pR j8 (HG1.out.trans hg) hlt0 hk20 (by simp[j8];omega)
  have HS:=zH (l0 hx)
  have hk6:k2<6:=by omega
  have HP:Hid (Rd w2 g (u+11)∧w.grownBy w2 (some g)):=⟨hr.more (by omega),(bB HG0.out _).trans (HG1.out.trans hg)⟩
  clear hr hg hx hk21
  go_wp2_with fail
  go_ret
  exact⟨x,rfl,by rw[HS.out];omega,by rw[HS.out];omega,HP.out⟩
 ·have hzb:(k0==0)=false:=by rw[beq_eq_false_iff_ne];exact hz
  clear hz
  go_wp2_with fail
  refine(cE g (u+1) _ _ (by omega) (by omega) (by omega) HR0.out).mono ?_
  rintro e w1 ⟨k,rfl,hk0,hk1,hr,hg⟩
  have hk6:=hk1 (by omega)
  have HR1:=zH hr
  have HG1:=zH (HG0.out.trans hg)
  clear hr hg hk1
  have h6:k=0∨k=1∨k=2∨k=3∨k=4∨k=5:=by omega
  clear hk0 hk6
  rcases h6 with rfl|rfl|rfl|rfl|rfl|rfl
  ·go_wp2_with fail
   refine(kW g (u+2) t _ (by omega) HR1.out).mono ?_
   rintro e w2 ⟨s1,rfl,hs1,hs2,hr,hg⟩
   have HP:Hid (Rd w2 g (u+11)∧w.grownBy w2 (some g)):=⟨hr.more (by omega),HG1.out.trans hg⟩
   clear hr hg
   go_wp2_with fail
   go_ret
   exact⟨_,rfl,by simp only[ByteArray.size_append,a8];omega,by simp only[ByteArray.size_append,a8];omega,HP.out⟩
  ·go_wp2_with fail
   refine(kW g (u+2) t _ (by omega) HR1.out).mono ?_
   rintro e w2 ⟨s1,rfl,hs1,hs2,hr,hg⟩
   have HR2:=zH hr
   have HG2:=zH (HG1.out.trans hg)
   clear hr hg
   go_wp2_with fail
   refine(kW g (u+2+3) t _ (by omega) HR2.out).mono ?_
   rintro e w3 ⟨s2,rfl,hs3,hs4,hr,hg⟩
   have HP:Hid (Rd w3 g (u+11)∧w.grownBy w3 (some g)):=⟨hr.more (by omega),HG2.out.trans hg⟩
   clear hr hg
   go_wp2_with fail
   go_ret
   exact⟨_,rfl,by simp only[ByteArray.size_append,a8];omega,by simp only[ByteArray.size_append,a8];omega,HP.out⟩
  ·go_wp2_with fail
   refine(kW g (u+2) t _ (by omega) HR1.out).mono ?_
   rintro e w2 ⟨s1,rfl,hs1,hs2,hr,hg⟩
   have HR2:=zH hr
   have HG2:=zH (HG1.out.trans hg)
   clear hr hg
   go_wp2_with fail
   refine(kW g (u+2+3) t _ (by omega) HR2.out).mono ?_
   rintro e w3 ⟨s2,rfl,hs3,hs4,hr,hg⟩
   have HP:Hid (Rd w3 g (u+11)∧w.grownBy w3 (some g)):=⟨hr.more (by omega),HG2.out.trans hg⟩
   clear hr hg
   go_wp2_with fail
   go_ret
   exact⟨_,rfl,by simp only[ByteArray.size_append,a8];omega,by simp only[ByteArray.size_append,a8];omega,HP.out⟩
  ·go_wp2_with fail
   refine(kW g (u+2) t _ (by omega) HR1.out).mono ?_
   rintro e w2 ⟨s1,rfl,hs1,hs2,hr,hg⟩
   have HR2:=zH hr
   have HG2:=zH (HG1.out.trans hg)
   clear hr hg
   go_wp2_with fail
   refine(kW g (u+2+3) t _ (by omega) HR2.out).mono ?_
   rintro e w3 ⟨s2,rfl,hs3,hs4,hr,hg⟩
   have HP:Hid (Rd w3 g (u+11)∧w.grownBy w3 (some g)):=⟨hr.more (by omega),HG2.out.trans hg⟩
   clear hr hg
   go_wp2_with fail
   go_ret
   exact⟨_,rfl,by simp only[ByteArray.size_append,a8];omega,by simp only[ByteArray.size_append,a8];omega,HP.out⟩
  ·go_wp2_with fail
   refine(kW g (u+2) t _ (by omega) HR1.out).mono ?_
   rintro e w2 ⟨s1,rfl,hs1,hs2,hr,hg⟩
   have HR2:=zH hr
   have HG2:=zH (HG1.out.trans hg)
   clear hr hg
   go_wp2_with fail
   refine(kW g (u+2+3) t _ (by omega) HR2.out).mono ?_
   rintro e w3 ⟨s2,rfl,hs3,hs4,hr,hg⟩
   have HP:Hid (Rd w3 g (u+11)∧w.grownBy w3 (some g)):=⟨hr.more (by omega),HG2.out.trans hg⟩
   clear hr hg
   go_wp2_with fail
   go_ret
   exact⟨_,rfl,by simp only[ByteArray.size_append,a8];omega,by simp only[ByteArray.size_append,a8];omega,HP.out⟩
  ·go_wp2_with fail
   refine(kW g (u+2) t _ (by omega) HR1.out).mono ?_
   rintro e w2 ⟨s1,rfl,hs1,hs2,hr,hg⟩
   have HR2:=zH hr
   have HG2:=zH (HG1.out.trans hg)
   clear hr hg
   go_wp2_with fail
   refine(kW g (u+2+3) t _ (by omega) HR2.out).mono ?_
   rintro e w3 ⟨s2,rfl,hs3,hs4,hr,hg⟩
   have HP:Hid (Rd w3 g (u+11)∧w.grownBy w3 (some g)):=⟨hr.more (by omega),HG2.out.trans hg⟩
   clear hr hg
   go_wp2_with fail
   go_ret
   exact⟨_,rfl,by simp only[ByteArray.size_append,a8];omega,by simp only[ByteArray.size_append,a8];omega,HP.out⟩
theorem YW:K8 2 13 27 900000:=by
 intro g u t w hu hR
 have HR:=zH hR
 have hlt:=hR.lt
 clear hR
 obtain⟨m,hm⟩:∃m,max (min t 3) 1=m:=⟨_,rfl⟩
 have hm1:1≤m:=by omega
 have hm3:m≤3:=by omega
 go_enter Tryz.func97,Tryz.ntmps97
 go_wp2_with fail
 refine(cE g u _ _ (by omega) (by omega) (by omega) HR.out).mono ?_
 rintro e w0 ⟨k0,rfl,hk00,hk01,hr,hg⟩
 have hk04:=hk01 (by omega)
 have hlt0:g<w0.heap.size:=hr.lt
 have HR0:=zH hr
 have HG0:=zH hg
 clear hr hg hk01
 by_cases hz:k0=0
 ·subst hz
  go_wp2_with fail
  refine(cE g (u+1) _ _ (by omega) (by omega) (by omega) (HR0.out.alloc _)).mono ?_
  rintro e w1 ⟨k,rfl,hk0,hk1,hr,hg⟩
  have hk8:=hk1 (by omega)
  have hsz:w0.heap.size<w1.heap.size:=by have:=hg.size;simp at this;omega
  obtain⟨q,hq⟩:∃q,k / 7=q:=⟨_,rfl⟩
  have hq0:0≤q:=by omega
  have hq1:q≤1:=by omega
  have HR1:=zH hr
  have HG1:=zH hg
  clear hr hg hk1
  go_wp2_with fail
  refine(cE g (u+2) _ _ (by omega) (by omega) (by omega) HR1.out).mono ?_
  rintro e w2 ⟨k2,rfl,hk20,hk21,hr,hg⟩
  have hk26:=hk21 (by omega)
  obtain⟨x,hx,hcell⟩:=pR j8 (HG1.out.trans hg) hlt0 hk20 (by simp[j8];omega)
  have HS:=zH (l0 hx)
  have hk6:k2<6:=by omega
  have HP:Hid (Rd w2 g (u+27)∧w.grownBy w2 (some g)):=⟨hr.more (by omega),(bB HG0.out _).trans (HG1.out.trans hg)⟩
  clear hr hg hx hk21
  go_wp2_with fail
  go_ret
  exact⟨x,rfl,by rw[HS.out];omega,by rw[HS.out];omega,HP.out⟩
 ·have hzb:(k0==0)=false:=by rw[beq_eq_false_iff_ne];exact hz
  clear hz
  go_wp2_with fail
  refine(cE g (u+1) _ _ (by omega) (by omega) (by omega) HR0.out).mono ?_
  rintro e w1 ⟨k,rfl,hk0,hk1,hr,hg⟩
  have hk6:=hk1 (by omega)
  have HR1:=zH hr
  have HG1:=zH (HG0.out.trans hg)
  clear hr hg hk1
  have h6:k=0∨k=1∨k=2∨k=3∨k=4∨k=5:=by omega
  clear hk0 hk6
  rcases h6 with rfl|rfl|rfl|rfl|rfl|rfl
  ·go_wp2_with fail
   refine(k9 g (u+2) t _ (by omega) HR1.out).mono ?_
   rintro e w2 ⟨s1,rfl,hs1,hs2,hr,hg⟩
   have HP:Hid (Rd w2 g (u+27)∧w.grownBy w2 (some g)):=⟨hr.more (by omega),HG1.out.trans hg⟩
   clear hr hg
   go_wp2_with fail
   go_ret
   exact⟨_,rfl,by simp only[ByteArray.size_append,a8];omega,by simp only[ByteArray.size_append,a8];omega,HP.out⟩
  ·go_wp2_with fail
   refine(k9 g (u+2) t _ (by omega) HR1.out).mono ?_
   rintro e w2 ⟨s1,rfl,hs1,hs2,hr,hg⟩
   have HR2:=zH hr
   have HG2:=zH (HG1.out.trans hg)
   clear hr hg
   go_wp2_with fail
   refine(k9 g (u+2+11) t _ (by omega) HR2.out).mono ?_
   rintro e w3 ⟨s2,rfl,hs3,hs4,hr,hg⟩
   have HP:Hid (Rd w3 g (u+27)∧w.grownBy w3 (some g)):=⟨hr.more (by omega),HG2.out.trans hg⟩
   clear hr hg
   go_wp2_with fail
   go_ret
   exact⟨_,rfl,by simp only[ByteArray.size_append,a8];omega,by simp only[ByteArray.size_append,a8];omega,HP.out⟩
  ·go_wp2_with fail
   refine(k9 g (u+2) t _ (by omega) HR1.out).mono ?_
   rintro e w2 ⟨s1,rfl,hs1,hs2,hr,hg⟩
   have HR2:=zH hr
   have HG2:=zH (HG1.out.trans hg)
   clear hr hg
   go_wp2_with fail
   refine(k9 g (u+2+11) t _ (by omega) HR2.out).mono ?_
   rintro e w3 ⟨s2,rfl,hs3,hs4,hr,hg⟩
   have HP:Hid (Rd w3 g (u+27)∧w.grownBy w3 (some g)):=⟨hr.more (by omega),HG2.out.trans hg⟩
   clear hr hg
   go_wp2_with fail
   go_ret
   exact⟨_,rfl,by simp only[ByteArray.size_append,a8];omega,by simp only[ByteArray.size_append,a8];omega,HP.out⟩
  ·go_wp2_with fail
   refine(k9 g (u+2) t _ (by omega) HR1.out).mono ?_
   rintro e w2 ⟨s1,rfl,hs1,hs2,hr,hg⟩
   have HR2:=zH hr
   have HG2:=zH (HG1.out.trans hg)
   clear hr hg
   go_wp2_with fail
   refine(k9 g (u+2+11) t _ (by omega) HR2.out).mono ?_
   rintro e w3 ⟨s2,rfl,hs3,hs4,hr,hg⟩
   have HP:Hid (Rd w3 g (u+27)∧w.grownBy w3 (some g)):=⟨hr.more (by omega),HG2.out.trans hg⟩
   clear hr hg
   go_wp2_with fail
   go_ret
   exact⟨_,rfl,by simp only[ByteArray.size_append,a8];omega,by simp only[ByteArray.size_append,a8];omega,HP.out⟩
  ·go_wp2_with fail
   refine(k9 g (u+2) t _ (by omega) HR1.out).mono ?_
   rintro e w2 ⟨s1,rfl,hs1,hs2,hr,hg⟩
   have HR2:=zH hr
   have HG2:=zH (HG1.out.trans hg)
   clear hr hg
   go_wp2_with fail
   refine(k9 g (u+2+11) t _ (by omega) HR2.out).mono ?_
   rintro e w3 ⟨s2,rfl,hs3,hs4,hr,hg⟩
   have HP:Hid (Rd w3 g (u+27)∧w.grownBy w3 (some g)):=⟨hr.more (by omega),HG2.out.trans hg⟩
   clear hr hg
   go_wp2_with fail
   go_ret
   exact⟨_,rfl,by simp only[ByteArray.size_append,a8];omega,by simp only[ByteArray.size_append,a8];omega,HP.out⟩
  ·go_wp2_with fail
   refine(k9 g (u+2) t _ (by omega) HR1.out).mono ?_
   rintro e w2 ⟨s1,rfl,hs1,hs2,hr,hg⟩
   have HR2:=zH hr
   have HG2:=zH (HG1.out.trans hg)
   clear hr hg
   go_wp2_with fail
   refine(k9 g (u+2+11) t _ (by omega) HR2.out).mono ?_
   rintro e w3 ⟨s2,rfl,hs3,hs4,hr,hg⟩
   have HP:Hid (Rd w3 g (u+27)∧w.grownBy w3 (some g)):=⟨hr.more (by omega),HG2.out.trans hg⟩
   clear hr hg
   go_wp2_with fail
   go_ret
   exact⟨_,rfl,by simp only[ByteArray.size_append,a8];omega,by simp only[ByteArray.size_append,a8];omega,HP.out⟩
end Go.Proofs.YtfhjcacfchkdpaaGreatDoor
