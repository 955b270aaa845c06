/-
  What the proofs of this seat's statements share (TelI).
-/
import Derived.Test.YtfhjcacfchkdpaaGreatDoorU26
set_option maxRecDepth 100000
set_option maxHeartbeats 32000000
namespace Go.Proofs.YtfhjcacfchkdpaaGreatDoor
open Go.RowKit
theorem jF{w:World}{b lo:Nat}(h:b<lo)(a b' c d:Value):aX lo w ((((w.setCell ⟨b,0,none⟩ a).setCell ⟨b,1,none⟩ b').setCell ⟨b,2,none⟩ c).setCell ⟨b,3,none⟩ d):=by
 have hset:∀(W:World) (i:Nat) (v:Value),aX lo W (W.setCell ⟨b,i,none⟩ v):=fun W i v=>aX.set h
 exact(((hset w 0 a).trans (hset _ 1 b') (Nat.le_refl _)).trans (hset _ 2 c) (Nat.le_refl _)).trans (hset _ 3 d) (Nat.le_refl _)
theorem O0{t:Int}{s:ByteArray}(h:fY t s=false):dO t s= -1:=by
 unfold dO
 unfold fY at h
 cases hs:fC t s with
 |none=>rfl
 |some x=>rw[hs] at h;cases h
theorem j5{R:World→Prop}{w wx:World}{T:aL}{A B:Option Addr}{n c m d:Nat}{t q:Int}(hT:qL R T A n c B m d)(hB:Below w.heap.size w wx)(hZ:aD wx (w.heap.size+1) 79 [.int .i64 0,.slice none 0 0,.int .i64 0,.slice none 0 0]):
  (wx.cell? ⟨w.heap.size+1,0,none⟩=some (.int .i64 0)∧wx.cell? ⟨w.heap.size+1,1,none⟩=some (.slice none 0 0)∧wx.cell? ⟨w.heap.size+1,2,none⟩=some (.int .i64 0)∧wx.cell? ⟨w.heap.size+1,3,none⟩=some (.slice none 0 0)∧wx.frozen? ⟨w.heap.size+1,0,none⟩=false∧wx.frozen? ⟨w.heap.size+1,1,none⟩=false∧wx.frozen? ⟨w.heap.size+1,2,none⟩=false∧wx.frozen? ⟨w.heap.size+1,3,none⟩=false)∧
  ((wx.setCell ⟨w.heap.size+1,0,none⟩ (.int .i64 q)).cell? ⟨w.heap.size+1,1,none⟩=some (.slice none 0 0)∧(wx.setCell ⟨w.heap.size+1,0,none⟩ (.int .i64 q)).frozen? ⟨w.heap.size+1,1,none⟩=false)∧
  (((wx.setCell ⟨w.heap.size+1,0,none⟩ (.int .i64 q)).setCell ⟨w.heap.size+1,1,none⟩ (.slice A n c)).cell? ⟨w.heap.size+1,2,none⟩=some (.int .i64 0)∧((wx.setCell ⟨w.heap.size+1,0,none⟩ (.int .i64 q)).setCell ⟨w.heap.size+1,1,none⟩ (.slice A n c)).frozen? ⟨w.heap.size+1,2,none⟩=false)∧
  ((((wx.setCell ⟨w.heap.size+1,0,none⟩ (.int .i64 q)).setCell ⟨w.heap.size+1,1,none⟩ (.slice A n c)).setCell ⟨w.heap.size+1,2,none⟩ (.int .i64 t)).cell? ⟨w.heap.size+1,3,none⟩=some (.slice none 0 0)∧(((wx.setCell ⟨w.heap.size+1,0,none⟩ (.int .i64 q)).setCell ⟨w.heap.size+1,1,none⟩ (.slice A n c)).setCell ⟨w.heap.size+1,2,none⟩ (.int .i64 t)).frozen? ⟨w.heap.size+1,3,none⟩=false)∧
  Hid (aD ((((wx.setCell ⟨w.heap.size+1,0,none⟩ (.int .i64 q)).setCell ⟨w.heap.size+1,1,none⟩ (.slice A n c)).setCell ⟨w.heap.size+1,2,none⟩ (.int .i64 t)).setCell ⟨w.heap.size+1,3,none⟩ (.slice B m d)) (w.heap.size+1) 79 [.int .i64 q,.slice A n c,.int .i64 t,.slice B m d])∧
  Hid ((∀w2,R w2→aX w.heap.size ((((wx.setCell ⟨w.heap.size+1,0,none⟩ (.int .i64 q)).setCell ⟨w.heap.size+1,1,none⟩ (.slice A n c)).setCell ⟨w.heap.size+1,2,none⟩ (.int .i64 t)).setCell ⟨w.heap.size+1,3,none⟩ (.slice B m d)) w2→bN w2 T A n c B m d)∧Below w.heap.size w ((((wx.setCell ⟨w.heap.size+1,0,none⟩ (.int .i64 q)).setCell ⟨w.heap.size+1,1,none⟩ (.slice A n c)).setCell ⟨w.heap.size+1,2,none⟩ (.int .i64 t)).setCell ⟨w.heap.size+1,3,none⟩ (.slice B m d))):=by
 obtain⟨h1,h2,h3,h4,h5⟩:=hZ.store4 (.int .i64 q) (.slice A n c) (.int .i64 t) (.slice B m d)
 have hbe:=bG hB (show w.heap.size≤w.heap.size+1 by omega) (.int .i64 q) (.slice A n c) (.int .i64 t) (.slice B m d)
 exact⟨h1,h2,h3,h4,h5,fun _ h _=>hT.at_ h,hbe⟩
theorem WW(T:aL)(A B:Option Addr)(n c m d:Nat)(text:ByteArray)(R:World→Prop)(w:World)(hT:qL R T A n c B m d)(hbw:R w)(hok:dP T=true)(hx:text.size≤1048576)(X:aL)(r:Bool)(hr:(gJ T 0 text=none∧X=T∧r=false)∨(gJ T 0 text=some X∧r=true)):
  Calls Tryz.prog 92 #[.agg #[.int .i64 T.now.known,.slice A n c,.int .i64 T.things,.slice B m d],.string text] w (qB X r R w):=by
 obtain rfl:=hT.pn
 obtain rfl:=hT.hn
 have hs:=lQ hok
 obtain⟨hst,hpl,_⟩:=(cT aH).1 hok
 obtain⟨hset,_,hol,hopen,_⟩:=(cS aH).1 hst
 obtain⟨ht1,ht3,hq0,hqa,hq256⟩:=aZ hset
 have hx9:text.size≤9223372036854775807:=by omega
 have HT:=zH hT
 have HW:=zH hbw
 obtain⟨u,hu⟩:∃u,dO T.things text=u:=⟨_,rfl⟩
 have HTI:Hid (∀W:World,Calls Tryz.prog 115 #[.int .i64 T.things,.string text] W fun e w' =>e= .returned (.int .i64 u)∧Below W.heap.size W w'):=fun W=>by rw[←hu];exact JE T.things text W hx9
 cases hS:fY T.things text with
 |false=>
  have hu1:u= -1:=by rw[←hu];exact O0 hS
  have hdn:gJ T 0 text=none:=EP (.inr ⟨Int.le_refl _,by decide,hS⟩)
  have HXR:Hid (X=T∧r=false):=by
   rcases hr with⟨_,h2,h3⟩|⟨h2,_⟩
   ·exact⟨h2,h3⟩
   ·rw[hdn] at h2;cases h2
  obtain⟨hXT,rfl⟩:=HXR.out
  obtain rfl:T=X:=hXT.symm
  obtain⟨t,ht⟩:∃t,T.things=t:=⟨_,rfl⟩
  obtain⟨q,hq⟩:∃q,T.now.known=q:=⟨_,rfl⟩
  have HTQ:Hid (T.things=t∧T.now.known=q):=⟨ht,hq⟩
  obtain⟨HX,HZ,HB⟩:=pH w 79 79 (.int .i64 q) (.slice A T.now.op.length c) (.int .i64 t) (.slice B T.past.length d) (.int .i64 0) (.slice none 0 0) (.int .i64 0) (.slice none 0 0)
  rw[ht] at HTI
  rw[ht,hq]
  have hd:decide (u<0)=true:=decide_eq_true (by omega)
  clear hr hdn hS hT hs hst hset hopen ht hq hu ht1 ht3 hq0 hqa hq256
  go_enter Tryz.func92,Tryz.ntmps92
  go_upto_region 1 with fail
  obtain⟨W0,hW0⟩:∃W,(w.alloc (.cells #[.int .i64 q,.slice A T.now.op.length c,.int .i64 t,.slice B T.past.length d] 79)).alloc (.cells #[.int .i64 0,.slice none 0 0,.int .i64 0,.slice none 0 0] 79)=W:=⟨_,rfl⟩
  rw[hW0] at HX HZ HB⊢
  clear hW0
  have hc2:=HX.out.cell (i:=2) (v:= .int .i64 t) rfl
  go_wp2_with fail
  refine(HTI.out _).mono ?_
  rintro e w1 ⟨rfl,hb⟩
  have HX1:=zH (HX.out.below hb)
  have HZ1:=zH (HZ.out.below hb)
  have HB1:=zH (aA HB.out hb)
  clear hb hc2 HX HZ HB
  have hc0:=HX1.out.cell (i:=0) (v:= .int .i64 q) rfl
  have hc1:=HX1.out.cell (i:=1) (v:= .slice A T.now.op.length c) rfl
  have hc2:=HX1.out.cell (i:=2) (v:= .int .i64 t) rfl
  have hc3:=HX1.out.cell (i:=3) (v:= .slice B T.past.length d) rfl
  obtain⟨⟨ha0,ha1,ha2,ha3,ha4,ha5,ha6,ha7⟩,⟨hb2,hb3⟩,⟨hb4,hb5⟩,⟨hb6,hb7⟩,HOUT,HFIN⟩:=j5 (t:=t) (q:=q) HT.out HB1.out HZ1.out
  go_wp2_with fail
  refine bodyPost_ret_by (bS (b:=w.heap.size+1) rfl rfl rfl HOUT) rfl ⟨A,_,c,B,_,d,by rw[HTQ.out.1,HTQ.out.2];rfl,HFIN.out⟩
 |true=>
  have hu0:0≤u∧u<256:=by
   obtain⟨y,hy⟩:=iV.1 (show aH.isS T.things text=true from hS)
   have h1:=nK hy
   have h2:=(bH T.things).2
   rw[hu] at h1
   omega
  obtain⟨L,hL⟩:∃L,aQ T.now.known u=L:=⟨_,rfl⟩
  have hband:=(mM T.now.known u hq0 (by omega) hu0.1 (by omega)).trans hL
  have hdo:gJ T 0 text=if L=0∨L=T.now.known then none else some (iG T ⟨L,T.now.op.filter fun s=> !aH.sett T.things L s⟩):=by
   unfold gJ cX
   rw[if_neg (by decide),if_pos rfl,if_pos (show aH.isS T.things text=true from hS)]
   simp only
   rw[show aH.tru T.things text=u from hu,hL]
  have hLok:aO T.things L=true:=by rw[←hL];exact JQ u hset
  have HSEN:Hid (∀s∈T.now.op,aH.isS T.things s=true∧s.size≤9223372036854775807):=fun s hs2=>⟨(hopen s hs2).1,by have:=hs.txt s hs2;omega⟩
  have hd:decide (u<0)=false:=decide_eq_false (by omega)
  obtain⟨t,ht⟩:∃t,T.things=t:=⟨_,rfl⟩
  obtain⟨q,hq⟩:∃q,T.now.known=q:=⟨_,rfl⟩
  have HTQ:Hid (T.things=t∧T.now.known=q):=⟨ht,hq⟩
  obtain⟨HX,HZ,HB⟩:=pH w 79 79 (.int .i64 q) (.slice A T.now.op.length c) (.int .i64 t) (.slice B T.past.length d) (.int .i64 0) (.slice none 0 0) (.int .i64 0) (.slice none 0 0)
  rw[ht] at HTI hLok HSEN hdo
  rw[hq] at hband hdo
  rw[ht,hq]
  have HLOK:=zH hLok
  by_cases hno:L=0∨L=q
  ·rw[if_pos hno] at hdo
   have HXR:Hid (X=T∧r=false):=by
    rcases hr with⟨_,h2,h3⟩|⟨h2,_⟩
    ·exact⟨h2,h3⟩
    ·rw[hdo] at h2;cases h2
   obtain⟨hXT,rfl⟩:=HXR.out
   obtain rfl:T=X:=hXT.symm
   obtain⟨z0,hz0⟩:∃z0,(L==0)=z0:=⟨_,rfl⟩
   have hzq:z0=false→(L==q)=true:=fun e=>by
    rw[e] at hz0
    rcases hno with h|h
    ·rw[h] at hz0;cases hz0
    ·rw[h];simp
   clear hr hdo hS hT hs hst hset hopen ht hq hu ht1 ht3 hq0 hqa hq256 hu0 hL hLok hno
   cases z0
   ·have hzq:=hzq rfl
    go_enter Tryz.func92,Tryz.ntmps92
    go_upto_region 1 with fail
    obtain⟨W0,hW0⟩:∃W,(w.alloc (.cells #[.int .i64 q,.slice A T.now.op.length c,.int .i64 t,.slice B T.past.length d] 79)).alloc (.cells #[.int .i64 0,.slice none 0 0,.int .i64 0,.slice none 0 0] 79)=W:=⟨_,rfl⟩
    rw[hW0] at HX HZ HB⊢
    clear hW0
    have hc2:=HX.out.cell (i:=2) (v:= .int .i64 t) rfl
    go_wp2_with fail
    refine(HTI.out _).mono ?_
    rintro e w1 ⟨rfl,hb⟩
    have HX1:=zH (HX.out.below hb)
    have HZ1:=zH (HZ.out.below hb)
    have HB1:=zH (aA HB.out hb)
    clear hb hc2 HX HZ HB
    have hc0:=HX1.out.cell (i:=0) (v:= .int .i64 q) rfl
    have hc1:=HX1.out.cell (i:=1) (v:= .slice A T.now.op.length c) rfl
    have hc2:=HX1.out.cell (i:=2) (v:= .int .i64 t) rfl
    have hc3:=HX1.out.cell (i:=3) (v:= .slice B T.past.length d) rfl
    obtain⟨⟨ha0,ha1,ha2,ha3,ha4,ha5,ha6,ha7⟩,⟨hb2,hb3⟩,⟨hb4,hb5⟩,⟨hb6,hb7⟩,HOUT,HFIN⟩:=j5 (t:=t) (q:=q) HT.out HB1.out HZ1.out
    go_wp2_with fail
    refine bodyPost_ret_by (bS (b:=w.heap.size+1) rfl rfl rfl HOUT) rfl ⟨A,_,c,B,_,d,by rw[HTQ.out.1,HTQ.out.2];rfl,HFIN.out⟩
   ·clear hzq
    go_enter Tryz.func92,Tryz.ntmps92
    go_upto_region 1 with fail
    obtain⟨W0,hW0⟩:∃W,(w.alloc (.cells #[.int .i64 q,.slice A T.now.op.length c,.int .i64 t,.slice B T.past.length d] 79)).alloc (.cells #[.int .i64 0,.slice none 0 0,.int .i64 0,.slice none 0 0] 79)=W:=⟨_,rfl⟩
    rw[hW0] at HX HZ HB⊢
    clear hW0
    have hc2:=HX.out.cell (i:=2) (v:= .int .i64 t) rfl
    go_wp2_with fail
    refine(HTI.out _).mono ?_
    rintro e w1 ⟨rfl,hb⟩
    have HX1:=zH (HX.out.below hb)
    have HZ1:=zH (HZ.out.below hb)
    have HB1:=zH (aA HB.out hb)
    clear hb hc2 HX HZ HB
    have hc0:=HX1.out.cell (i:=0) (v:= .int .i64 q) rfl
    have hc1:=HX1.out.cell (i:=1) (v:= .slice A T.now.op.length c) rfl
    have hc2:=HX1.out.cell (i:=2) (v:= .int .i64 t) rfl
    have hc3:=HX1.out.cell (i:=3) (v:= .slice B T.past.length d) rfl
    obtain⟨⟨ha0,ha1,ha2,ha3,ha4,ha5,ha6,ha7⟩,⟨hb2,hb3⟩,⟨hb4,hb5⟩,⟨hb6,hb7⟩,HOUT,HFIN⟩:=j5 (t:=t) (q:=q) HT.out HB1.out HZ1.out
    go_wp2_with fail
    refine bodyPost_ret_by (bS (b:=w.heap.size+1) rfl rfl rfl HOUT) rfl ⟨A,_,c,B,_,d,by rw[HTQ.out.1,HTQ.out.2];rfl,HFIN.out⟩
  ·rw[if_neg hno] at hdo
   have HXR:Hid (X=iG T ⟨L,T.now.op.filter fun s=> !aH.sett t L s⟩∧r=true):=by
    rcases hr with⟨h2,_⟩|⟨h2,h3⟩
    ·rw[hdo] at h2;cases h2
    ·rw[hdo] at h2;exact⟨(Option.some.inj h2).symm,h3⟩
   obtain⟨hXT,rfl⟩:=HXR.out
   have HXT:=zH hXT
   have hz0:(L==0)=false:=by rw[beq_eq_false_iff_ne];exact fun e=>hno (.inl e)
   have hzq:(L==q)=false:=by rw[beq_eq_false_iff_ne];exact fun e=>hno (.inr e)
   have hpl2:T.past.length≤1048576:=by omega
   have hpl10:=zH hpl
   clear hr hdo hS hT hs hst hset hopen ht hq hu ht1 ht3 hq0 hqa hq256 hu0 hL hLok hno hXT hpl
   go_enter Tryz.func92,Tryz.ntmps92
   go_upto_region 1 with fail
   obtain⟨W0,hW0⟩:∃W,(w.alloc (.cells #[.int .i64 q,.slice A T.now.op.length c,.int .i64 t,.slice B T.past.length d] 79)).alloc (.cells #[.int .i64 0,.slice none 0 0,.int .i64 0,.slice none 0 0] 79)=W:=⟨_,rfl⟩
   rw[hW0] at HX HZ HB⊢
   clear hW0
   have hc2:=HX.out.cell (i:=2) (v:= .int .i64 t) rfl
   go_wp2_with fail
   refine(HTI.out _).mono ?_
   rintro e w1 ⟨rfl,hb⟩
   have HX1:=zH (HX.out.below hb)
   have HZ1:=zH (HZ.out.below hb)
   have HB1:=zH (aA HB.out hb)
   clear hb hc2 HX HZ HB
   have hc0:=HX1.out.cell (i:=0) (v:= .int .i64 q) rfl
   have hc1:=HX1.out.cell (i:=1) (v:= .slice A T.now.op.length c) rfl
   go_wp2_with fail
   go_loopw [8,40] (fun o i wr=>∃(j:Nat) (ys:List ByteArray),j≤T.now.op.length∧i= .int .i64 j∧Hid (ys=(T.now.op.take j).filter fun s=> !aH.sett t L s)∧Hid (aK wr w1.heap.size o ys)∧Hid (Below w1.heap.size w1 wr)) (fun _ i _=>T.now.op.length-(Go.RowKit.intOf i).toNat)
   case atStart=>exact⟨0,[],Nat.zero_le _,rfl,rfl,aK.nil _ _,Below.refl _ _⟩
   case round=>
    obtain⟨j,ys,hj,rfl,HYS,HO,HBR⟩:=hrel
    have HXR:=zH (HX1.out.below HBR.out)
    have HBW:=zH (aA HB1.out HBR.out)
    by_cases hlt:j<T.now.op.length
    ·obtain⟨b,off,x,rfl,hcx,hx',hbl⟩:=(HT.out.hA _ (HT.out.fw _ _ HW.out HBW.out)).elem hlt
     have hxm:x∈T.now.op:=List.mem_of_getElem? hx'.out
     have hsx:=HSEN.out x hxm
     obtain⟨v,hv⟩:∃v,aH.sett t L x=v:=⟨_,rfl⟩
     have HST:Hid (∀W:World,Calls Tryz.prog 105 #[.int .i64 t,.int .i64 L,.string x] W fun e w' =>e= .returned (.tuple #[.bool v,.bool true])∧Below W.heap.size W w'):=fun W=>by
      have:=tQ x W HLOK.out hsx.2
      rw[hsx.1,hv,Bool.true_and] at this;exact this
     have HFS:Hid ((T.now.op.take (j+1)).filter (fun s=> !aH.sett t L s)=(T.now.op.take j).filter (fun s=> !aH.sett t L s)++(if v=true then[] else[x])):=by
      unfold Hid
      rw[yR hx'.out,hv]
     have hc2:=HXR.out.cell (i:=2) (v:= .int .i64 t) rfl
     obtain⟨Ao,co,hoe,_⟩:=HO.out.form
     obtain⟨no,hno⟩:∃no,ys.length=no:=⟨_,rfl⟩
     rw[hno] at hoe
     subst hoe
     have HNO:=zH hno
     clear hv hsx hno
     cases v
     ·have HLY:Hid (ys.length≤1048576):=by
       unfold Hid
       rw[HYS.out]
       have:=List.length_filter_le (fun s=> !aH.sett t L s) (T.now.op.take j)
       rw[List.length_take] at this
       omega
      have HYN:Hid (ys++[x]=(T.now.op.take (j+1)).filter fun s=> !aH.sett t L s):=by
       unfold Hid
       rw[HFS.out,←HYS.out];simp
      go_wp2_with (first
       |(go_at_call 105;refine(HST.out _).mono ?_;rintro e w5 ⟨rfl,hb⟩;have HO5:=zH (HO.out.below hb);have HB5:=zH (aA HBR.out hb);have HSZ5:Hid (w1.heap.size≤w5.heap.size):=HB5.out.size;clear hb hcx hc2)
       |(at_builtin;refine AL (W:=w5) rfl _ _ rfl w1.heap.size (.slice Ao no co) ys rfl HO5.out x rfl HLY.out HSZ5.out ?_;intro v' w6 ho hg;have HO6:=zH ho;have HB6:=zH (EC HB5.out HB5.out.size HO5.out (Nat.le_refl _) hg);clear ho hg))
      go_roundw
      case rel=>exact⟨j+1,ys++[x],by omega,by go_num,HYN,HO6,HB6⟩
      case measure=>simp[Go.RowKit.intOf];omega
     ·have HYN:Hid (ys=(T.now.op.take (j+1)).filter fun s=> !aH.sett t L s):=by
       unfold Hid
       rw[HFS.out,←HYS.out];simp
      go_wp2_with (go_at_call 105;refine(HST.out _).mono ?_;rintro e w5 ⟨rfl,hb⟩;have HO5:=zH (HO.out.below hb);have HB5:=zH (aA HBR.out hb);clear hb hcx hc2)
      go_roundw
      case rel=>exact⟨j+1,ys,by omega,by go_num,HYN,HO5,HB5⟩
      case measure=>simp[Go.RowKit.intOf];omega
    ·obtain rfl:j=T.now.op.length:=by omega
     rw[List.take_length] at HYS
     obtain⟨Ao,co,hoe,hoc,hom,hos,_⟩:=HO.out.form
     obtain⟨no,hno⟩:∃no,ys.length=no:=⟨_,rfl⟩
     rw[hno] at hoe hoc
     subst hoe
     have HGO:=zH (J0 T A B _ c _ d R wr HT.out (HT.out.fw _ _ HW.out HBW.out) hpl10.out L Ao no co ys hno.symm hoc hom)
     rw[HTQ.out.1,HTQ.out.2] at HGO
     have HZR:=zH (HZ1.out.below HBR.out)
     have hc0:=HXR.out.cell (i:=0) (v:= .int .i64 q) rfl
     have hc1:=HXR.out.cell (i:=1) (v:= .slice A T.now.op.length c) rfl
     have hc2:=HXR.out.cell (i:=2) (v:= .int .i64 t) rfl
     have hc3:=HXR.out.cell (i:=3) (v:= .slice B T.past.length d) rfl
     have hzl:w.heap.size+1<w1.heap.size:=HZ1.out.lt
     clear hoc hom hos hno
     go_wp2_with fail
     refine HGO.out.mono ?_
     rintro e w6 ⟨B',m',d',rfl,hat,hb⟩
     rw[HTQ.out.1]
     have HZ6:=zH (HZR.out.below hb)
     have HB6:=zH (aA HBW.out hb)
     obtain⟨⟨ha0,ha1,ha2,ha3,ha4,ha5,ha6,ha7⟩,⟨hb2,hb3⟩,⟨hb4,hb5⟩,⟨hb6,hb7⟩,HOUT⟩:=HZ6.out.store4 (.int .i64 L) (.slice Ao no co) (.int .i64 t) (.slice B' m' d')
     have HBE:=zH (bG HB6.out (show w.heap.size≤w.heap.size+1 by omega) (.int .i64 L) (.slice Ao no co) (.int .i64 t) (.slice B' m' d'))
     have HKE:Hid (aX w1.heap.size w6 ((((w6.setCell ⟨w.heap.size+1,0,none⟩ (.int .i64 L)).setCell ⟨w.heap.size+1,1,none⟩ (.slice Ao no co)).setCell ⟨w.heap.size+1,2,none⟩ (.int .i64 t)).setCell ⟨w.heap.size+1,3,none⟩ (.slice B' m' d'))):=jF hzl _ _ _ _
     have HFT:Hid (∀w2,R w2→aX w.heap.size ((((w6.setCell ⟨w.heap.size+1,0,none⟩ (.int .i64 L)).setCell ⟨w.heap.size+1,1,none⟩ (.slice Ao no co)).setCell ⟨w.heap.size+1,2,none⟩ (.int .i64 t)).setCell ⟨w.heap.size+1,3,none⟩ (.slice B' m' d')) w2→bN w2 X Ao no co B' m' d'):=fun w2 g1 g2=>by
      rw[HXT.out,←HYS.out]
      have hk:=HKE.out.trans g2 HB1.out.size
      exact hat w2 g1 ⟨hk.1,fun b h1 h2=>hk.2 b (Nat.le_trans HBR.out.size h1) h2⟩ (uD ((HO.out.below hb).keep hk))
     clear hat hb hc0 hc1 hc2 hc3
     go_wp2_with fail
     refine bodyPost_ret_by (bS (b:=w.heap.size+1) rfl rfl rfl HOUT) rfl ⟨_,_,_,_,_,_,by rw[show X.things=t from(by rw[HXT.out];exact HTQ.out.1),show X.now.known=L from(by rw[HXT.out];rfl)];rfl,HFT.out,HBE.out⟩
end Go.Proofs.YtfhjcacfchkdpaaGreatDoor
