/-
  What the proofs of this seat's statements share (LnS).
-/
import Derived.Deep.RegionHeld3
import Derived.Test.YtfhjcacfchkdpaaGreatDoorU39
set_option maxRecDepth 100000
set_option maxHeartbeats 32000000
namespace Go.Proofs.YtfhjcacfchkdpaaGreatDoor
open Go.RowKit
def C0(X:aL)(a:List UInt8)(w:World)(e:Ending)(w' :World):Prop:=∃A n c B m d,e= .returned (.tuple #[.agg #[.int .i64 X.things,.int .i64 X.now.known,.slice A n c,.slice B m d],.string (cJ a)])∧dL w' w.heap.size X A n c B m d∧Below w.heap.size w w'
theorem gN{w Wc:World}{lo:Nat}{T:aL}{A B:Option Addr}{n c m d:Nat}(hin:dL Wc lo T A n c B m d)(hlo:w.heap.size+1<lo)(a b r q:Value):dL ((((Wc.setCell ⟨w.heap.size+1,0,none⟩ a).setCell ⟨w.heap.size+1,1,none⟩ b).setCell ⟨w.heap.size+1,2,none⟩ r).setCell ⟨w.heap.size+1,3,none⟩ q) w.heap.size T A n c B m d:=
 (hin.keep (jF hlo a b r q)).base (by omega)
theorem RR(b:Bool)(w:World):Calls Tryz.prog 64 #[.bool b] w fun e w' =>e= .returned (.string (cJ (kP b)))∧Below w.heap.size w w' :=by
 have hr:=Below.refl w.heap.size w
 have HY:Hid (∀v:ByteArray,v=cJ (kP b)→Ending.returned (.string v)= .returned (.string (cJ (kP b)))):=fun v h=>by rw[h]
 go_enter Tryz.func64,Tryz.ntmps64
 cases b
 ·go_wp2_with fail
  go_ret
  exact⟨HY.out _ rfl,hr⟩
 ·go_wp2_with fail
  go_ret
  exact⟨HY.out _ rfl,hr⟩
theorem nV(W:World)(n:Nat):Below W.heap.size W (W.drewN n):=aE (Below.refl _ _) n
set_option linter.unusedSimpArgs false in
theorem ON(T:aL)(A B:Option Addr)(n c m d:Nat)(s:ByteArray)(w:World)(hT:bN w T A n c B m d)(hs:cD T)(hx:s.size≤1048576):
  Calls Tryz.prog 21 #[.agg #[.int .i64 T.things,.int .i64 T.now.known,.slice A n c,.slice B m d],.string s] w (C0 (lV T s).1 (lV T s).2 w):=by
 obtain rfl:=hT.hn
 obtain rfl:=hT.pn
 have HT0:=zH hT
 have HS:=zH hs
 have HSX:=zH hx
 obtain⟨z,hz⟩:∃z,dP T=z:=⟨_,rfl⟩
 have HZ:=zH hz
 obtain⟨P,hP⟩:∃P,lV T s=P:=⟨_,rfl⟩
 rw[hP]
 obtain⟨X,a⟩:=P
 dsimp only
 have HP:=zH hP
 obtain⟨t,ht⟩:∃t,T.things=t:=⟨_,rfl⟩
 obtain⟨q,hq⟩:∃q,T.now.known=q:=⟨_,rfl⟩
 have HTQ:Hid (T.things=t∧T.now.known=q):=⟨ht,hq⟩
 have HOK:Hid (∀W,Below w.heap.size w W→Calls Tryz.prog 13 #[.agg #[.int .i64 t,.int .i64 q,.slice A T.now.op.length c,.slice B T.past.length d]] W fun e w' =>e= .returned (.bool z)∧Below W.heap.size W w'):=fun W hb=>by
  have:=q7 T A B _ c _ d W (hT.below hb) hs
  rw[hz,ht,hq] at this;exact this
 have HRDD:Hid (∀W,Calls Tryz.prog 45 #[.string s] W fun e w' =>e= .returned (.tuple #[.agg #[.int .i64 (dZ s).1,.string (dZ s).2],.bool (fW s)])∧Below W.heap.size W w'):=fun W=>DN s W hx
 obtain⟨HX,HR,HB⟩:=vM w (.int .i64 t) (.int .i64 q) (.slice A T.now.op.length c) (.slice B T.past.length d)
 rw[ht,hq]
 clear hT hs hx hz hP ht hq
 go_enter Tryz.func21,Tryz.ntmps21
 go_upto_region 1 with fail
 obtain⟨W0,hW0⟩:∃W,(w.alloc (.cells #[.int .i64 t,.int .i64 q,.slice A T.now.op.length c,.slice B T.past.length d] 33)).alloc (.cells #[.int .i64 0,.int .i64 0,.slice none 0 0,.slice none 0 0] 33)=W:=⟨_,rfl⟩
 rw[hW0] at HX HR HB⊢
 clear hW0
 obtain⟨hc0,hc1,hc2,hc3⟩:=HX.out.four
 go_wp2_with fail
 refine(HOK.out _ HB.out).mono ?_
 rintro e w1 ⟨rfl,hb⟩
 have HX1:=zH (HX.out.below hb)
 have HR1:=zH (HR.out.below hb)
 have HB1:=zH (aA HB.out hb)
 clear hb hc0 hc1 hc2 hc3 HX HR HB HOK
 cases z with
 |false=>
  obtain⟨rfl,rfl⟩:=Prod.mk.inj ((wY HZ.out).symm.trans HP.out)
  obtain⟨⟨ha0,ha1,ha2,ha3,ha4,ha5,ha6,ha7⟩,⟨hb2,hb3⟩,⟨hb4,hb5⟩,⟨hb6,hb7⟩,HOUT⟩:=HR1.out.store4 (.int .i64 0) (.int .i64 0) (.slice none 0 0) (.slice none 0 0)
  have HBE:=zH (bG HB1.out (show w.heap.size≤w.heap.size+1 by omega) (.int .i64 0) (.int .i64 0) (.slice none 0 0) (.slice none 0 0))
  go_wp2_with fail
  refine bodyPost_ret_by (aU (b:=w.heap.size+1) rfl rfl rfl HOUT) rfl ?_
  exact⟨none,0,0,none,0,0,rfl,fun w' _=>⟨rfl,Nat.le_refl _,Nat.zero_le _,a7.nil _ _,rfl,Nat.le_refl _,Nat.zero_le _,b6.nil _ _⟩,HBE.out⟩
 |true=>
  have hY:kS T s=(X,a):=(uE HZ.out).symm.trans HP.out
  have HLN:Hid (fW s=false→X=T∧a=kD T s):=fun h=>by
   rw[I7 h] at hY
   cases hY
   exact⟨rfl,rfl⟩
  have HLY:Hid (fW s=true→∃r:Bool,dN T (dZ s).1 (dZ s).2=(X,r)∧a=if r=true then vI else uQ):=fun h=>by
   rw[wQ8 h HZ.out] at hY
   cases hY
   exact⟨_,rfl,rfl⟩
  have HTXS:Hid ((dZ s).2.size≤1048576):=Nat.le_trans (F0 s) HSX.out
  obtain⟨hst,_,_⟩:=(cT aH).1 HZ.out
  obtain⟨hset,_,_,_,_⟩:=(cS aH).1 hst
  rw[HTQ.out.1,HTQ.out.2] at hset
  obtain⟨_,_,hq0,_,hq256⟩:=aZ hset
  have HQQ:Hid (0≤q∧q<256):=⟨hq0,hq256⟩
  clear hY hst hset hq0 hq256
  have hlo:w.heap.size+1<w1.heap.size:=HR1.out.lt
  have HLO:=zH hlo
  obtain⟨hc0,hc1,hc2,hc3⟩:=HX1.out.four
  have HCP:=zH (pF (lo:=w1.heap.size) HTQ (HT0.out.below HB1.out) HS.out (Nat.le_refl _))
  go_wp2_with fail
  refine HCP.out.mono ?_
  rintro e w2 ⟨A6,c6,B6,d6,vs6,rfl,ho,hp,hb⟩
  have HX2:=zH (HX1.out.below hb)
  have HR2:=zH (HR1.out.below hb)
  have HB2:=zH (aA HB1.out hb)
  have HI2:=zH (r8 ho hp).1
  have hlo2:w1.heap.size≤w2.heap.size:=hb.size
  clear ho hp hb hc0 hc1 hc2 hc3 HX1 HR1 HB1 HCP
  go_upto_region 4 with fail
  have hbl:Below w2.heap.size w2 (w2.alloc (.cells #[.int .i64 t,.int .i64 q,.slice A6 T.now.op.length c6,.slice B6 T.past.length d6] 33)):=pN _ _
  have hSM:=aD.new w2 33 [.int .i64 t,.int .i64 q,.slice A6 T.now.op.length c6,.slice B6 T.past.length d6]
  have HX3:=zH (HX2.out.below hbl)
  have HR3:=zH (HR2.out.below hbl)
  have HB3:=zH (aA HB2.out hbl)
  have HI3:=zH (HI2.out.below hbl)
  obtain⟨lo,hlo1⟩:∃lo,w1.heap.size=lo:=⟨_,rfl⟩
  obtain⟨h6,he6⟩:∃h,w2.heap.size=h:=⟨_,rfl⟩
  obtain⟨W3,hW3⟩:∃W,w2.alloc (.cells #[.int .i64 t,.int .i64 q,.slice A6 T.now.op.length c6,.slice B6 T.past.length d6] 33)=W:=⟨_,rfl⟩
  rw[hW3] at hSM HX3 HR3 HB3 HI3
  rw[hW3]
  rw[he6] at hSM hlo2
  rw[hlo1] at hlo hlo2 HLO HI3
  try rw[he6]
  have HS3:=zH hSM
  have hneX:w.heap.size+1≠w.heap.size:=by omega
  have hne6:w.heap.size+1≠h6:=by omega
  clear hW3 he6 hlo1 hSM hbl HX2 HR2 HB2 HI2 hlo2 hlo
  go_wp2_with fail
  refine(HRDD.out _).mono ?_
  rintro e w4 ⟨rfl,hb⟩
  have HX4:=zH (HX3.out.below hb)
  have HR4:=zH (HR3.out.below hb)
  have HB4:=zH (aA HB3.out hb)
  have HI4:=zH (HI3.out.below hb)
  have HS4:=zH (HS3.out.below hb)
  clear hb HX3 HR3 HB3 HI3 HS3 HRDD
  obtain⟨kd,hkd⟩:∃k,(dZ s).1=k:=⟨_,rfl⟩
  obtain⟨tx,htx⟩:∃k,(dZ s).2=k:=⟨_,rfl⟩
  obtain⟨zr,hzr⟩:∃z,fW s=z:=⟨_,rfl⟩
  rw[hkd,htx,hzr]
  rw[hkd,htx,hzr] at HLY
  rw[hzr] at HLN
  rw[htx] at HTXS
  clear hkd htx hzr
  go_upto_region 5 with fail
  have hbl:=pN w4 (.cells #[.int .i64 kd,.string tx] 41)
  have hD:=aD.new w4 41 [.int .i64 kd,.string tx]
  have HX:=zH (HX4.out.below hbl)
  have HR:=zH (HR4.out.below hbl)
  have HB:=zH (aA HB4.out hbl)
  have HI:=zH (HI4.out.below hbl)
  have HSM:=zH (HS4.out.below hbl)
  obtain⟨h7,he7⟩:∃h,w4.heap.size=h:=⟨_,rfl⟩
  obtain⟨W5,hW5⟩:∃W,w4.alloc (.cells #[.int .i64 kd,.string tx] 41)=W:=⟨_,rfl⟩
  rw[hW5] at hD HX HR HB HI HSM
  rw[hW5]
  rw[he7] at hD
  try rw[he7]
  have HD:=zH hD
  clear hW5 he7 hD hbl HX4 HR4 HB4 HI4 HS4
  cases zr with
  |true=>
   obtain⟨r,hdo,har⟩:=HLY.out rfl
   have HDT:=zH hdo
   have HAR:=zH har
   have HDO:=zH (ML HDT (HT0.out.below HB.out) HS.out HTXS.out)
   rw[HTQ.out.1,HTQ.out.2] at HDO
   clear hdo har HLN HLY
   obtain⟨hc0,hc1,hc2,hc3⟩:=HX.out.four
   have hd0:=HD.out.cell (i:=0) (v:= .int .i64 kd) rfl
   have hd1:=HD.out.cell (i:=1) (v:= .string tx) rfl
   go_wp2_with fail
   refine HDO.out.mono ?_
   rintro e w6 ⟨A',n',c',B',m',d',rfl,hin,hb⟩
   have HR6:=zH (HR.out.below hb)
   have HB6:=zH (aA HB.out hb)
   have HI6:=zH hin
   have hzl:w.heap.size+1<W5.heap.size:=HR.out.lt
   clear hin hb hc0 hc1 hc2 hc3 hd0 hd1 HX HR HB HI HSM HD HDO HTXS HDT
   go_upto_region 7 with fail
   have hbl:=pN w6 (.cells #[.int .i64 X.things,.int .i64 X.now.known,.slice A' n' c',.slice B' m' d'] 33)
   have hE:=aD.new w6 33 [.int .i64 X.things,.int .i64 X.now.known,.slice A' n' c',.slice B' m' d']
   have HR7:=zH (HR6.out.below hbl)
   have HB7:=zH (aA HB6.out hbl)
   have HI7:=zH (HI6.out.below hbl)
   obtain⟨h9,he9⟩:∃h,w6.heap.size=h:=⟨_,rfl⟩
   obtain⟨W7,hW7⟩:∃W,w6.alloc (.cells #[.int .i64 X.things,.int .i64 X.now.known,.slice A' n' c',.slice B' m' d'] 33)=W:=⟨_,rfl⟩
   rw[hW7] at hE HR7 HB7 HI7
   rw[hW7]
   rw[he9] at hE
   try rw[he9]
   obtain⟨hc0,hc1,hc2,hc3⟩:=hE.four
   clear hW7 he9 hE hbl HR6 HB6 HI6
   obtain⟨⟨ha0,ha1,ha2,ha3,ha4,ha5,ha6,ha7⟩,⟨hb2,hb3⟩,⟨hb4,hb5⟩,⟨hb6,hb7⟩,HOUT⟩:=HR7.out.store4 (.int .i64 X.things) (.int .i64 X.now.known) (.slice A' n' c') (.slice B' m' d')
   have HBE:=zH (bG HB7.out (show w.heap.size≤w.heap.size+1 by omega) (.int .i64 X.things) (.int .i64 X.now.known) (.slice A' n' c') (.slice B' m' d'))
   have HFIN:=zH (gN HI7.out hzl (.int .i64 X.things) (.int .i64 X.now.known) (.slice A' n' c') (.slice B' m' d'))
   cases r with
   |false=>
    obtain rfl:a=uQ:=HAR.out
    go_wp2_with fail
    refine bodyPost_ret_by (aU (b:=w.heap.size+1) rfl rfl rfl HOUT) rfl ⟨A',n',c',B',m',d',rfl,HFIN.out,HBE.out⟩
   |true=>
    obtain rfl:a=vI:=HAR.out
    go_wp2_with fail
    refine bodyPost_ret_by (aU (b:=w.heap.size+1) rfl rfl rfl HOUT) rfl ⟨A',n',c',B',m',d',rfl,HFIN.out,HBE.out⟩
  |false=>
   obtain⟨hXT,ha⟩:=HLN.out rfl
   obtain rfl:T=X:=hXT.symm
   have HA:=zH ha
   clear ha hXT HLN HLY HD HTXS
   have hfirst:s=⟨#[107,110,111,119,110]⟩∨s=⟨#[111,112,101,110]⟩∨s=⟨#[110,111,119]⟩∨s=⟨#[112,97,115,116]⟩∨(s≠⟨#[107,110,111,119,110]⟩∧s≠⟨#[111,112,101,110]⟩∧s≠⟨#[110,111,119]⟩∧s≠⟨#[112,97,115,116]⟩):=by
    by_cases e1:s=⟨#[107,110,111,119,110]⟩
    ·exact .inl e1
    by_cases e2:s=⟨#[111,112,101,110]⟩
    ·exact .inr (.inl e2)
    by_cases e3:s=⟨#[110,111,119]⟩
    ·exact .inr (.inr (.inl e3))
    by_cases e4:s=⟨#[112,97,115,116]⟩
    ·exact .inr (.inr (.inr (.inl e4)))
    ·exact .inr (.inr (.inr (.inr ⟨e1,e2,e3,e4⟩)))
   rcases hfirst with rfl|rfl|rfl|rfl|⟨g1,g2,g3,g4⟩
   ·clear HP HSX
    have HNU:Hid (∀W,Calls Tryz.prog 62 #[.int .i64 q] W fun e w' =>e= .returned (.string (cJ (fS q.toNat)))∧Below W.heap.size W w'):=fun W=>by
     have:=CL q.toNat (by have:=HQQ.out;omega) W
     rw[show((q.toNat:Nat):Int)=q by have:=HQQ.out;omega] at this;exact this
    have HAK:Hid (kD T ⟨#[107,110,111,119,110]⟩=fS q.toNat):=by unfold Hid;rw[←HTQ.out.2];exact C7 T
    go_upto_region 12 with fail
    have HXC:Hid (aD W5.drew w.heap.size 33 [.int .i64 t,.int .i64 q,.slice A T.now.op.length c,.slice B T.past.length d]):=HX.out.drew
    have HRC:Hid (aD W5.drew (w.heap.size+1) 33 [.int .i64 0,.int .i64 0,.slice none 0 0,.slice none 0 0]):=HR.out.drew
    have HSC:Hid (aD W5.drew h6 33 [.int .i64 t,.int .i64 q,.slice A6 T.now.op.length c6,.slice B6 T.past.length d6]):=HSM.out.drew
    have HIC:Hid (dL W5.drew lo T A6 T.now.op.length c6 B6 T.past.length d6):=HI.out.below (nV _ 1)
    have HBC:Hid (Below w.heap.size w W5.drew):=aE HB.out 1
    have HQ:Hid (∀W,aD W w.heap.size 33 [.int .i64 t,.int .i64 q,.slice A T.now.op.length c,.slice B T.past.length d]→aD W h6 33 [.int .i64 t,.int .i64 q,.slice A6 T.now.op.length c6,.slice B6 T.past.length d6]→Below w.heap.size w W→W.cell? ⟨w.heap.size,0,none⟩=some (.int .i64 t)∧W.cell? ⟨w.heap.size,1,none⟩=some (.int .i64 q)∧W.cell? ⟨w.heap.size,2,none⟩=some (.slice A T.now.op.length c)∧W.cell? ⟨w.heap.size,3,none⟩=some (.slice B T.past.length d)∧W.cell? ⟨h6,0,none⟩=some (.int .i64 t)∧W.cell? ⟨h6,1,none⟩=some (.int .i64 q)∧W.cell? ⟨h6,2,none⟩=some (.slice A6 T.now.op.length c6)∧W.cell? ⟨h6,3,none⟩=some (.slice B6 T.past.length d6)):=fun W e1 e2 _e3=>by
     obtain⟨f0,f1,f2,f3⟩:=e1.four
     obtain⟨f4,f5,f6,f7⟩:=e2.four
     exact⟨f0,f1,f2,f3,f4,f5,f6,f7⟩
    clear HX HR HSM HI HB
    refine wp_region_held_drew (S:=(fun w' =>w'.cell? ⟨w.heap.size,0,none⟩=some (.int .i64 t)∧w'.cell? ⟨w.heap.size,1,none⟩=some (.int .i64 q)∧w'.cell? ⟨w.heap.size,2,none⟩=some (.slice A T.now.op.length c)∧w'.cell? ⟨w.heap.size,3,none⟩=some (.slice B T.past.length d)∧w'.cell? ⟨h6,0,none⟩=some (.int .i64 t)∧w'.cell? ⟨h6,1,none⟩=some (.int .i64 q)∧w'.cell? ⟨h6,2,none⟩=some (.slice A6 T.now.op.length c6)∧w'.cell? ⟨h6,3,none⟩=some (.slice B6 T.past.length d6))) (by kernel_rfl) ?_ (fun hHeld=> ?_)
    ·exact HQ.out _ HXC.out HSC.out HBC.out
    obtain⟨wd,hwd⟩:∃wd,W5.drew=wd:=⟨_,rfl⟩
    rw[hwd] at HXC HRC HSC HIC HBC hHeld⊢
    clear hwd
    refine zT 0 (h:=?_)
    try simp only[Act.put,zS]
    refine zT 1 (h:=?_)
    try simp only[Act.put,zS]
    refine zT 2 (h:=?_)
    try simp only[Act.put,zS]
    refine zT 3 (h:=?_)
    try simp only[Act.put,zS]
    refine wpAnyH_ready (rs:=[4]) (by kernel_rfl) (by simp) ?_
    refine AllReadyH.cons rfl (fun K hK=> ?_) AllReadyH.nil
    (go_simp;go_at_call 62;refine(HNU.out _).mono ?_;rintro e wc ⟨rfl,hb⟩;replace HXC:=zH (HXC.out.below hb);replace HRC:=zH (HRC.out.below hb);replace HSC:=zH (HSC.out.below hb);replace HIC:=zH (HIC.out.below hb);replace HBC:=zH (aA HBC.out hb);clear hb)
    refine hK.out _ _ ?_ (fun hHeld=> ?_)
    ·exact HQ.out _ HXC.out HSC.out HBC.out
    clear hK K
    try simp only[Act.put,zS]
    refine wpAnyH_ready (rs:=[5]) (by kernel_rfl) (by simp) ?_
    refine AllReadyH.cons rfl (fun K hK=> ?_) AllReadyH.nil
    (obtain⟨⟨ha0,ha1,ha2,ha3,ha4,ha5,ha6,ha7⟩,⟨hb2,hb3⟩,⟨hb4,hb5⟩,⟨hb6,hb7⟩,HOUT⟩:=HRC.out.store4 (.int .i64 t) (.int .i64 q) (.slice A6 T.now.op.length c6) (.slice B6 T.past.length d6);replace HXC:=zH (HXC.out.other4 hneX (.int .i64 t) (.int .i64 q) (.slice A6 T.now.op.length c6) (.slice B6 T.past.length d6));replace HSC:=zH (HSC.out.other4 hne6 (.int .i64 t) (.int .i64 q) (.slice A6 T.now.op.length c6) (.slice B6 T.past.length d6));have HFIN:=zH (gN HIC.out HLO.out (.int .i64 t) (.int .i64 q) (.slice A6 T.now.op.length c6) (.slice B6 T.past.length d6));replace HBC:=zH (bG HBC.out (Nat.le_succ _) (.int .i64 t) (.int .i64 q) (.slice A6 T.now.op.length c6) (.slice B6 T.past.length d6));go_simp)
    refine hK.out _ _ ?_ (fun hHeld=> ?_)
    ·exact HQ.out _ HXC.out HSC.out HBC.out
    clear hK K
    try simp only[Act.put,zS]
    refine wpAnyH_ready (rs:=[6]) (by kernel_rfl) (by simp) ?_
    refine AllReadyH.cons rfl (fun K hK=> ?_) AllReadyH.nil
    go_simp
    refine hK.out _ _ ?_ (fun hHeld=> ?_)
    ·exact HQ.out _ HXC.out HSC.out HBC.out
    clear hK K
    try simp only[Act.put,zS]
    refine wpAnyH_done (by kernel_rfl) ?_ _
    go_wp2_with fail
    refine bodyPost_ret_by (aU (b:=w.heap.size+1) rfl rfl rfl HOUT) rfl ⟨A6,_,c6,B6,_,d6,by rw[HTQ.out.1,HTQ.out.2,HA.out,HAK.out];rfl,HFIN.out,HBC.out⟩
   ·clear HP HSX
    have HNU:Hid (∀W,Calls Tryz.prog 62 #[.int .i64 T.now.op.length] W fun e w' =>e= .returned (.string (cJ (fS T.now.op.length)))∧Below W.heap.size W w'):=fun W=>CL _ HS.out.op W
    have HAK:=zH (GT T)
    go_upto_region 14 with fail
    have HXC:Hid (aD W5.drew w.heap.size 33 [.int .i64 t,.int .i64 q,.slice A T.now.op.length c,.slice B T.past.length d]):=HX.out.drew
    have HRC:Hid (aD W5.drew (w.heap.size+1) 33 [.int .i64 0,.int .i64 0,.slice none 0 0,.slice none 0 0]):=HR.out.drew
    have HSC:Hid (aD W5.drew h6 33 [.int .i64 t,.int .i64 q,.slice A6 T.now.op.length c6,.slice B6 T.past.length d6]):=HSM.out.drew
    have HIC:Hid (dL W5.drew lo T A6 T.now.op.length c6 B6 T.past.length d6):=HI.out.below (nV _ 1)
    have HBC:Hid (Below w.heap.size w W5.drew):=aE HB.out 1
    have HQ:Hid (∀W,aD W w.heap.size 33 [.int .i64 t,.int .i64 q,.slice A T.now.op.length c,.slice B T.past.length d]→aD W h6 33 [.int .i64 t,.int .i64 q,.slice A6 T.now.op.length c6,.slice B6 T.past.length d6]→Below w.heap.size w W→W.cell? ⟨w.heap.size,0,none⟩=some (.int .i64 t)∧W.cell? ⟨w.heap.size,1,none⟩=some (.int .i64 q)∧W.cell? ⟨w.heap.size,2,none⟩=some (.slice A T.now.op.length c)∧W.cell? ⟨w.heap.size,3,none⟩=some (.slice B T.past.length d)∧W.cell? ⟨h6,0,none⟩=some (.int .i64 t)∧W.cell? ⟨h6,1,none⟩=some (.int .i64 q)∧W.cell? ⟨h6,2,none⟩=some (.slice A6 T.now.op.length c6)∧W.cell? ⟨h6,3,none⟩=some (.slice B6 T.past.length d6)):=fun W e1 e2 _e3=>by
     obtain⟨f0,f1,f2,f3⟩:=e1.four
     obtain⟨f4,f5,f6,f7⟩:=e2.four
     exact⟨f0,f1,f2,f3,f4,f5,f6,f7⟩
    clear HX HR HSM HI HB
    refine wp_region_held_drew (S:=(fun w' =>w'.cell? ⟨w.heap.size,0,none⟩=some (.int .i64 t)∧w'.cell? ⟨w.heap.size,1,none⟩=some (.int .i64 q)∧w'.cell? ⟨w.heap.size,2,none⟩=some (.slice A T.now.op.length c)∧w'.cell? ⟨w.heap.size,3,none⟩=some (.slice B T.past.length d)∧w'.cell? ⟨h6,0,none⟩=some (.int .i64 t)∧w'.cell? ⟨h6,1,none⟩=some (.int .i64 q)∧w'.cell? ⟨h6,2,none⟩=some (.slice A6 T.now.op.length c6)∧w'.cell? ⟨h6,3,none⟩=some (.slice B6 T.past.length d6))) (by kernel_rfl) ?_ (fun hHeld=> ?_)
    ·exact HQ.out _ HXC.out HSC.out HBC.out
    obtain⟨wd,hwd⟩:∃wd,W5.drew=wd:=⟨_,rfl⟩
    rw[hwd] at HXC HRC HSC HIC HBC hHeld⊢
    clear hwd
    refine zT 0 (h:=?_)
    try simp only[Act.put,zS]
    refine zT 1 (h:=?_)
    try simp only[Act.put,zS]
    refine zT 2 (h:=?_)
    try simp only[Act.put,zS]
    refine zT 3 (h:=?_)
    try simp only[Act.put,zS]
    refine zT 4 (h:=?_)
    try simp only[Act.put,zS]
    refine wpAnyH_ready (rs:=[5]) (by kernel_rfl) (by simp) ?_
    refine AllReadyH.cons rfl (fun K hK=> ?_) AllReadyH.nil
    (go_simp;go_at_call 62;refine(HNU.out _).mono ?_;rintro e wc ⟨rfl,hb⟩;replace HXC:=zH (HXC.out.below hb);replace HRC:=zH (HRC.out.below hb);replace HSC:=zH (HSC.out.below hb);replace HIC:=zH (HIC.out.below hb);replace HBC:=zH (aA HBC.out hb);clear hb)
    refine hK.out _ _ ?_ (fun hHeld=> ?_)
    ·exact HQ.out _ HXC.out HSC.out HBC.out
    clear hK K
    try simp only[Act.put,zS]
    refine wpAnyH_ready (rs:=[6]) (by kernel_rfl) (by simp) ?_
    refine AllReadyH.cons rfl (fun K hK=> ?_) AllReadyH.nil
    (obtain⟨⟨ha0,ha1,ha2,ha3,ha4,ha5,ha6,ha7⟩,⟨hb2,hb3⟩,⟨hb4,hb5⟩,⟨hb6,hb7⟩,HOUT⟩:=HRC.out.store4 (.int .i64 t) (.int .i64 q) (.slice A6 T.now.op.length c6) (.slice B6 T.past.length d6);replace HXC:=zH (HXC.out.other4 hneX (.int .i64 t) (.int .i64 q) (.slice A6 T.now.op.length c6) (.slice B6 T.past.length d6));replace HSC:=zH (HSC.out.other4 hne6 (.int .i64 t) (.int .i64 q) (.slice A6 T.now.op.length c6) (.slice B6 T.past.length d6));have HFIN:=zH (gN HIC.out HLO.out (.int .i64 t) (.int .i64 q) (.slice A6 T.now.op.length c6) (.slice B6 T.past.length d6));replace HBC:=zH (bG HBC.out (Nat.le_succ _) (.int .i64 t) (.int .i64 q) (.slice A6 T.now.op.length c6) (.slice B6 T.past.length d6));go_simp)
    refine hK.out _ _ ?_ (fun hHeld=> ?_)
    ·exact HQ.out _ HXC.out HSC.out HBC.out
    clear hK K
    try simp only[Act.put,zS]
    refine wpAnyH_ready (rs:=[7]) (by kernel_rfl) (by simp) ?_
    refine AllReadyH.cons rfl (fun K hK=> ?_) AllReadyH.nil
    go_simp
    refine hK.out _ _ ?_ (fun hHeld=> ?_)
    ·exact HQ.out _ HXC.out HSC.out HBC.out
    clear hK K
    try simp only[Act.put,zS]
    refine wpAnyH_done (by kernel_rfl) ?_ _
    go_wp2_with fail
    refine bodyPost_ret_by (aU (b:=w.heap.size+1) rfl rfl rfl HOUT) rfl ⟨A6,_,c6,B6,_,d6,by rw[HTQ.out.1,HTQ.out.2,HA.out,HAK.out];rfl,HFIN.out,HBC.out⟩
   ·clear HP HSX
    have HAK:=zH (JB T)
    have hlx:T.now.op.length≤1048576:=HS.out.op
    by_cases h0:T.now.op.length=0
    ·have HLU:=zH (DU h0)
     have hd:((T.now.op.length:Int)==0)=true:=by rw[beq_iff_eq];omega
     obtain⟨hx0,hx1,hx2,hx3⟩:=HX.out.four
     clear h0
     obtain⟨hs0,hs1,hs2,hs3⟩:=HSM.out.four
     obtain⟨⟨ha0,ha1,ha2,ha3,ha4,ha5,ha6,ha7⟩,⟨hb2,hb3⟩,⟨hb4,hb5⟩,⟨hb6,hb7⟩,HOUT⟩:=HR.out.store4 (.int .i64 t) (.int .i64 q) (.slice A6 T.now.op.length c6) (.slice B6 T.past.length d6)
     have HBE:=zH (bG HB.out (Nat.le_succ _) (.int .i64 t) (.int .i64 q) (.slice A6 T.now.op.length c6) (.slice B6 T.past.length d6))
     have HFIN:=zH (gN HI.out HLO.out (.int .i64 t) (.int .i64 q) (.slice A6 T.now.op.length c6) (.slice B6 T.past.length d6))
     go_wp2_with fail
     refine bodyPost_ret_by (aU (b:=w.heap.size+1) rfl rfl rfl HOUT) rfl ⟨A6,_,c6,B6,_,d6,by rw[HTQ.out.1,HTQ.out.2,HA.out,HAK.out,HLU.out];rfl,HFIN.out,HBE.out⟩
    ·obtain⟨j,hj⟩:∃j,T.now.op.length=j+1:=⟨T.now.op.length-1,by omega⟩
     have hjlt:j<T.now.op.length:=by omega
     have hji:(T.now.op.length:Int)-1=(j:Int):=by omega
     have hjw:IntKind.i64.wrap (j:Int)=j:=IntWalk.i64_in _ (by omega)
     have hj0:(0:Int)≤(j:Int):=by omega
     have hj1:(j:Int)<(T.now.op.length:Int):=by omega
     have hd:((T.now.op.length:Int)==0)=false:=by rw[beq_eq_false_iff_ne];omega
     obtain⟨b,off,x,hAe,hcx,HXJ,HBL⟩:=HT0.out.hA.elem hjlt
     have HLU:=zH (DB hj HXJ.out)
     have HEL:Hid (∀W,Below w.heap.size w W→W.cell? ⟨b,off+j,none⟩=some (.string x)):=fun W hb=>(Below.cell hb (p:=⟨b,off+j,none⟩) HBL.out).trans hcx
     subst hAe
     obtain⟨hx0,hx1,hx2,hx3⟩:=HX.out.four
     clear h0 hj hcx HXJ HBL
     go_upto_region 18 with fail
     clear hx0 hx1 hx2 hx3
     have HXC:Hid (aD W5.drew w.heap.size 33 [.int .i64 t,.int .i64 q,.slice (some ⟨b,off,none⟩) T.now.op.length c,.slice B T.past.length d]):=HX.out.drew
     have HRC:Hid (aD W5.drew (w.heap.size+1) 33 [.int .i64 0,.int .i64 0,.slice none 0 0,.slice none 0 0]):=HR.out.drew
     have HSC:Hid (aD W5.drew h6 33 [.int .i64 t,.int .i64 q,.slice A6 T.now.op.length c6,.slice B6 T.past.length d6]):=HSM.out.drew
     have HIC:Hid (dL W5.drew lo T A6 T.now.op.length c6 B6 T.past.length d6):=HI.out.below (nV _ 1)
     have HBC:Hid (Below w.heap.size w W5.drew):=aE HB.out 1
     have HQ:Hid (∀W,aD W w.heap.size 33 [.int .i64 t,.int .i64 q,.slice (some ⟨b,off,none⟩) T.now.op.length c,.slice B T.past.length d]→aD W h6 33 [.int .i64 t,.int .i64 q,.slice A6 T.now.op.length c6,.slice B6 T.past.length d6]→Below w.heap.size w W→W.cell? ⟨w.heap.size,0,none⟩=some (.int .i64 t)∧W.cell? ⟨w.heap.size,1,none⟩=some (.int .i64 q)∧W.cell? ⟨w.heap.size,2,none⟩=some (.slice (some ⟨b,off,none⟩) T.now.op.length c)∧W.cell? ⟨w.heap.size,3,none⟩=some (.slice B T.past.length d)∧W.cell? ⟨h6,0,none⟩=some (.int .i64 t)∧W.cell? ⟨h6,1,none⟩=some (.int .i64 q)∧W.cell? ⟨h6,2,none⟩=some (.slice A6 T.now.op.length c6)∧W.cell? ⟨h6,3,none⟩=some (.slice B6 T.past.length d6)∧W.cell? ⟨b,off+j,none⟩=some (.string x)):=fun W e1 e2 _e3=>by
      obtain⟨f0,f1,f2,f3⟩:=e1.four
      obtain⟨f4,f5,f6,f7⟩:=e2.four
      exact⟨f0,f1,f2,f3,f4,f5,f6,f7,HEL.out W _e3⟩
     clear HX HR HSM HI HB
     refine wp_region_held_drew (S:=(fun w' =>w'.cell? ⟨w.heap.size,0,none⟩=some (.int .i64 t)∧w'.cell? ⟨w.heap.size,1,none⟩=some (.int .i64 q)∧w'.cell? ⟨w.heap.size,2,none⟩=some (.slice (some ⟨b,off,none⟩) T.now.op.length c)∧w'.cell? ⟨w.heap.size,3,none⟩=some (.slice B T.past.length d)∧w'.cell? ⟨h6,0,none⟩=some (.int .i64 t)∧w'.cell? ⟨h6,1,none⟩=some (.int .i64 q)∧w'.cell? ⟨h6,2,none⟩=some (.slice A6 T.now.op.length c6)∧w'.cell? ⟨h6,3,none⟩=some (.slice B6 T.past.length d6)∧w'.cell? ⟨b,off+j,none⟩=some (.string x))) (by kernel_rfl) ?_ (fun hHeld=> ?_)
     ·exact HQ.out _ HXC.out HSC.out HBC.out
     obtain⟨wd,hwd⟩:∃wd,W5.drew=wd:=⟨_,rfl⟩
     rw[hwd] at HXC HRC HSC HIC HBC hHeld⊢
     clear hwd
     refine zT 0 (h:=?_)
     try simp only[Act.put,zS]
     refine zT 1 (h:=?_)
     try simp only[Act.put,zS]
     refine zT 2 (h:=?_)
     try simp only[Act.put,zS]
     refine zT 3 (h:=?_)
     try simp only[Act.put,zS]
     refine zT 4 (h:=?_)
     try simp only[Act.put,zS]
     refine zT 5 (h:=?_)
     try simp only[Act.put,zS]
     refine zT 6 (h:=?_)
     try simp only[Act.put,zS]
     refine zT 7 (h:=?_)
     try simp only[Act.put,zS]
     refine zT 8 (h:=?_)
     try simp only[Act.put,zS]
     refine zT 9 (h:=?_)
     try simp only[Act.put,zS]
     refine zT 10 (h:=?_)
     try simp only[Act.put,zS]
     refine wpAnyH_ready (rs:=[11]) (by kernel_rfl) (by simp) ?_
     refine AllReadyH.cons rfl (fun K hK=> ?_) AllReadyH.nil
     (obtain⟨⟨ha0,ha1,ha2,ha3,ha4,ha5,ha6,ha7⟩,⟨hb2,hb3⟩,⟨hb4,hb5⟩,⟨hb6,hb7⟩,HOUT⟩:=HRC.out.store4 (.int .i64 t) (.int .i64 q) (.slice A6 T.now.op.length c6) (.slice B6 T.past.length d6);replace HXC:=zH (HXC.out.other4 hneX (.int .i64 t) (.int .i64 q) (.slice A6 T.now.op.length c6) (.slice B6 T.past.length d6));replace HSC:=zH (HSC.out.other4 hne6 (.int .i64 t) (.int .i64 q) (.slice A6 T.now.op.length c6) (.slice B6 T.past.length d6));have HFIN:=zH (gN HIC.out HLO.out (.int .i64 t) (.int .i64 q) (.slice A6 T.now.op.length c6) (.slice B6 T.past.length d6));replace HBC:=zH (bG HBC.out (Nat.le_succ _) (.int .i64 t) (.int .i64 q) (.slice A6 T.now.op.length c6) (.slice B6 T.past.length d6));go_simp)
     refine hK.out _ _ ?_ (fun hHeld=> ?_)
     ·exact HQ.out _ HXC.out HSC.out HBC.out
     clear hK K
     try simp only[Act.put,zS]
     refine wpAnyH_ready (rs:=[12]) (by kernel_rfl) (by simp) ?_
     refine AllReadyH.cons rfl (fun K hK=> ?_) AllReadyH.nil
     go_simp
     refine hK.out _ _ ?_ (fun hHeld=> ?_)
     ·exact HQ.out _ HXC.out HSC.out HBC.out
     clear hK K
     try simp only[Act.put,zS]
     refine wpAnyH_done (by kernel_rfl) ?_ _
     go_wp2_with fail
     refine bodyPost_ret_by (aU (b:=w.heap.size+1) rfl rfl rfl HOUT) rfl ⟨A6,_,c6,B6,_,d6,by rw[HTQ.out.1,HTQ.out.2,HA.out,HAK.out,HLU.out,r7];rfl,HFIN.out,HBC.out⟩
   ·clear HP HSX
    have HNU:Hid (∀W,Calls Tryz.prog 62 #[.int .i64 T.past.length] W fun e w' =>e= .returned (.string (cJ (fS T.past.length)))∧Below W.heap.size W w'):=fun W=>CL _ HS.out.past W
    have HAK:=zH (G0 T)
    go_upto_region 20 with fail
    have HXC:Hid (aD W5.drew w.heap.size 33 [.int .i64 t,.int .i64 q,.slice A T.now.op.length c,.slice B T.past.length d]):=HX.out.drew
    have HRC:Hid (aD W5.drew (w.heap.size+1) 33 [.int .i64 0,.int .i64 0,.slice none 0 0,.slice none 0 0]):=HR.out.drew
    have HSC:Hid (aD W5.drew h6 33 [.int .i64 t,.int .i64 q,.slice A6 T.now.op.length c6,.slice B6 T.past.length d6]):=HSM.out.drew
    have HIC:Hid (dL W5.drew lo T A6 T.now.op.length c6 B6 T.past.length d6):=HI.out.below (nV _ 1)
    have HBC:Hid (Below w.heap.size w W5.drew):=aE HB.out 1
    have HQ:Hid (∀W,aD W w.heap.size 33 [.int .i64 t,.int .i64 q,.slice A T.now.op.length c,.slice B T.past.length d]→aD W h6 33 [.int .i64 t,.int .i64 q,.slice A6 T.now.op.length c6,.slice B6 T.past.length d6]→Below w.heap.size w W→W.cell? ⟨w.heap.size,0,none⟩=some (.int .i64 t)∧W.cell? ⟨w.heap.size,1,none⟩=some (.int .i64 q)∧W.cell? ⟨w.heap.size,2,none⟩=some (.slice A T.now.op.length c)∧W.cell? ⟨w.heap.size,3,none⟩=some (.slice B T.past.length d)∧W.cell? ⟨h6,0,none⟩=some (.int .i64 t)∧W.cell? ⟨h6,1,none⟩=some (.int .i64 q)∧W.cell? ⟨h6,2,none⟩=some (.slice A6 T.now.op.length c6)∧W.cell? ⟨h6,3,none⟩=some (.slice B6 T.past.length d6)):=fun W e1 e2 _e3=>by
     obtain⟨f0,f1,f2,f3⟩:=e1.four
     obtain⟨f4,f5,f6,f7⟩:=e2.four
     exact⟨f0,f1,f2,f3,f4,f5,f6,f7⟩
    clear HX HR HSM HI HB
    refine wp_region_held_drew (S:=(fun w' =>w'.cell? ⟨w.heap.size,0,none⟩=some (.int .i64 t)∧w'.cell? ⟨w.heap.size,1,none⟩=some (.int .i64 q)∧w'.cell? ⟨w.heap.size,2,none⟩=some (.slice A T.now.op.length c)∧w'.cell? ⟨w.heap.size,3,none⟩=some (.slice B T.past.length d)∧w'.cell? ⟨h6,0,none⟩=some (.int .i64 t)∧w'.cell? ⟨h6,1,none⟩=some (.int .i64 q)∧w'.cell? ⟨h6,2,none⟩=some (.slice A6 T.now.op.length c6)∧w'.cell? ⟨h6,3,none⟩=some (.slice B6 T.past.length d6))) (by kernel_rfl) ?_ (fun hHeld=> ?_)
    ·exact HQ.out _ HXC.out HSC.out HBC.out
    obtain⟨wd,hwd⟩:∃wd,W5.drew=wd:=⟨_,rfl⟩
    rw[hwd] at HXC HRC HSC HIC HBC hHeld⊢
    clear hwd
    refine zT 0 (h:=?_)
    try simp only[Act.put,zS]
    refine zT 1 (h:=?_)
    try simp only[Act.put,zS]
    refine zT 2 (h:=?_)
    try simp only[Act.put,zS]
    refine zT 3 (h:=?_)
    try simp only[Act.put,zS]
    refine wpAnyH_ready (rs:=[4]) (by kernel_rfl) (by simp) ?_
    refine AllReadyH.cons rfl (fun K hK=> ?_) AllReadyH.nil
    (go_simp;go_at_call 62;refine(HNU.out _).mono ?_;rintro e wc ⟨rfl,hb⟩;replace HXC:=zH (HXC.out.below hb);replace HRC:=zH (HRC.out.below hb);replace HSC:=zH (HSC.out.below hb);replace HIC:=zH (HIC.out.below hb);replace HBC:=zH (aA HBC.out hb);clear hb)
    refine hK.out _ _ ?_ (fun hHeld=> ?_)
    ·exact HQ.out _ HXC.out HSC.out HBC.out
    clear hK K
    try simp only[Act.put,zS]
    refine wpAnyH_ready (rs:=[5]) (by kernel_rfl) (by simp) ?_
    refine AllReadyH.cons rfl (fun K hK=> ?_) AllReadyH.nil
    (obtain⟨⟨ha0,ha1,ha2,ha3,ha4,ha5,ha6,ha7⟩,⟨hb2,hb3⟩,⟨hb4,hb5⟩,⟨hb6,hb7⟩,HOUT⟩:=HRC.out.store4 (.int .i64 t) (.int .i64 q) (.slice A6 T.now.op.length c6) (.slice B6 T.past.length d6);replace HXC:=zH (HXC.out.other4 hneX (.int .i64 t) (.int .i64 q) (.slice A6 T.now.op.length c6) (.slice B6 T.past.length d6));replace HSC:=zH (HSC.out.other4 hne6 (.int .i64 t) (.int .i64 q) (.slice A6 T.now.op.length c6) (.slice B6 T.past.length d6));have HFIN:=zH (gN HIC.out HLO.out (.int .i64 t) (.int .i64 q) (.slice A6 T.now.op.length c6) (.slice B6 T.past.length d6));replace HBC:=zH (bG HBC.out (Nat.le_succ _) (.int .i64 t) (.int .i64 q) (.slice A6 T.now.op.length c6) (.slice B6 T.past.length d6));go_simp)
    refine hK.out _ _ ?_ (fun hHeld=> ?_)
    ·exact HQ.out _ HXC.out HSC.out HBC.out
    clear hK K
    try simp only[Act.put,zS]
    refine wpAnyH_ready (rs:=[6]) (by kernel_rfl) (by simp) ?_
    refine AllReadyH.cons rfl (fun K hK=> ?_) AllReadyH.nil
    go_simp
    refine hK.out _ _ ?_ (fun hHeld=> ?_)
    ·exact HQ.out _ HXC.out HSC.out HBC.out
    clear hK K
    try simp only[Act.put,zS]
    refine wpAnyH_done (by kernel_rfl) ?_ _
    go_wp2_with fail
    refine bodyPost_ret_by (aU (b:=w.heap.size+1) rfl rfl rfl HOUT) rfl ⟨A6,_,c6,B6,_,d6,by rw[HTQ.out.1,HTQ.out.2,HA.out,HAK.out];rfl,HFIN.out,HBC.out⟩
   ·have HPL:Hid (q8 s):=⟨fun e=>g1 (gI e),fun e=>g2 (gI e),fun e=>g3 (gI e),fun e=>g4 (gI e)⟩
    have k1:=j3 g1
    have k2:=j3 g2
    have k3:=j3 g3
    have k4:=j3 g4
    have hsx:s.size≤1048576:=HSX.out
    clear g1 g2 g3 g4 HP
    go_wp2_with fail
    go_loopw [11] (fun i wr=>∃j:Nat,j≤s.size∧i= .int .i64 j∧wr=W5∧Hid (∀k:Nat,k<j→(bL s)[k]?≠some 32)) (fun i _=>s.size-(Go.RowKit.intOf i).toNat)
    case atStart=>exact⟨0,Nat.zero_le _,by first|trivial|rfl,by first|trivial|rfl,fun k h=>absurd h (Nat.not_lt_zero _)⟩
    case round=>
     obtain⟨j,hj,rfl,hwr,HJ⟩:=hrel
     subst hwr
     by_cases hlt:j<s.size
     ·have hd0:(0:Int)≤(j:Int):=by omega
      have hd1:(j:Int)<(s.size:Int):=by omega
      have hget:(bL s)[j]? =some s[j]:=by unfold bL;rw[Array.getElem?_toList];exact Array.getElem?_eq_getElem hlt
      have h32:s[j]=32↔s[j].toNat=32:=⟨fun h=>by rw[h];rfl,fun h=>UInt8.toNat_inj.1 h⟩
      obtain⟨y,hy⟩:∃y,s[j].toNat=y:=⟨_,rfl⟩
      rw[hy] at h32
      by_cases h:y=32
      ·have hcb:((y:Int)==32)=true:=by rw[beq_iff_eq];omega
       have hcn:((y:Int) != 32)=false:=by rw[bne,hcb];rfl
       have hnl:(bL s)[j]? =some 32:=by rw[hget,h32.2 h]
       have hne:((j:Int)==(s.size:Int))=false:=by rw[beq_eq_false_iff_ne];omega
       have HJD:Hid (a=jJ T (s.extract 0 j) (s.extract (j+1) s.size)):=HA.out.trans (J5 HPL.out ⟨hnl,HJ.out⟩)
       have hrs:(s.extract (j+1) s.size).size≤9223372036854775807:=by rw[k5 (Nat.le_refl _)];omega
       have hi2:(j:Int)≤(s.size:Int):=by omega
       have hi3:(0:Int)≤(j:Int)+1:=by omega
       have hi4:(j:Int)+1≤(s.size:Int):=by omega
       have hw:IntKind.i64.wrap ((j:Int)+1)=((j+1:Nat):Int):=by
        rw[show((j+1:Nat):Int)=(j:Int)+1 by omega]
        exact IntWalk.i64_in _ (by omega)
       have hi5:(0:Int)≤((j+1:Nat):Int):=by omega
       have hi6:((j+1:Nat):Int)≤(s.size:Int):=by omega
       obtain⟨a0,he0⟩:∃x,s.extract 0 j=x:=⟨_,rfl⟩
       obtain⟨r0,he1⟩:∃x,s.extract (j+1) s.size=x:=⟨_,rfl⟩
       rw[he0,he1] at HJD
       rw[he1] at hrs
       have HRS:=zH hrs
       clear hget h32 h hnl HJ HA HPL HSX hrs
       obtain⟨hx0,hx1,hx2,hx3⟩:=HX.out.four
       have hfirst:a0=⟨#[115,101,116,116,108,101,100]⟩∨a0=⟨#[112,111,115,115,105,98,108,101]⟩∨a0=⟨#[115,101,110,115,101]⟩∨(a0≠⟨#[115,101,116,116,108,101,100]⟩∧a0≠⟨#[112,111,115,115,105,98,108,101]⟩∧a0≠⟨#[115,101,110,115,101]⟩):=by
        by_cases e1:a0=⟨#[115,101,116,116,108,101,100]⟩
        ·exact .inl e1
        by_cases e2:a0=⟨#[112,111,115,115,105,98,108,101]⟩
        ·exact .inr (.inl e2)
        by_cases e3:a0=⟨#[115,101,110,115,101]⟩
        ·exact .inr (.inr (.inl e3))
        ·exact .inr (.inr (.inr ⟨e1,e2,e3⟩))
       rcases hfirst with rfl|rfl|rfl|⟨g1,g2,g3⟩
       ·rw[uR,HTQ.out.1,HTQ.out.2] at HJD
        obtain⟨v1,hv⟩:∃v,aH.isS t r0=v:=⟨_,rfl⟩
        obtain⟨v2,hv2⟩:∃v,aH.sett t q r0=v:=⟨_,rfl⟩
        have HV:=zH hv
        have HV2:=zH hv2
        rw[hv,hv2] at HJD
        have HSE:Hid (∀W,Calls Tryz.prog 63 #[.int .i64 t,.string r0] W fun e w' =>e= .returned (.bool v1)∧Below W.heap.size W w'):=fun W=>by
         have:=vL t r0 W HRS.out
         rw[show fY t r0=v1 from hv] at this;exact this
        go_wp2_with fail
        refine(HSE.out _).mono ?_
        rintro e w7 ⟨rfl,hb⟩
        clear hx0 hx1 hx2 hx3
        replace HX:=zH (HX.out.below hb)
        replace HR:=zH (HR.out.below hb)
        replace HSM:=zH (HSM.out.below hb)
        replace HI:=zH (HI.out.below hb)
        replace HB:=zH (aA HB.out hb)
        clear hb
        clear hv hv2
        cases v1 with
        |false=>
         have HAW:Hid (a=m0):=by unfold Hid;rw[HJD.out,if_neg (by decide)]
         obtain⟨hx0,hx1,hx2,hx3⟩:=HX.out.four
         clear HJD
         obtain⟨hs0,hs1,hs2,hs3⟩:=HSM.out.four
         obtain⟨⟨ha0,ha1,ha2,ha3,ha4,ha5,ha6,ha7⟩,⟨hb2,hb3⟩,⟨hb4,hb5⟩,⟨hb6,hb7⟩,HOUT⟩:=HR.out.store4 (.int .i64 t) (.int .i64 q) (.slice A6 T.now.op.length c6) (.slice B6 T.past.length d6)
         have HBE:=zH (bG HB.out (Nat.le_succ _) (.int .i64 t) (.int .i64 q) (.slice A6 T.now.op.length c6) (.slice B6 T.past.length d6))
         have HFIN:=zH (gN HI.out HLO.out (.int .i64 t) (.int .i64 q) (.slice A6 T.now.op.length c6) (.slice B6 T.past.length d6))
         go_wp2_with fail
         refine bodyPost_ret_by (aU (b:=w.heap.size+1) rfl rfl rfl HOUT) rfl ⟨A6,_,c6,B6,_,d6,by rw[HTQ.out.1,HTQ.out.2,HAW.out];rfl,HFIN.out,HBE.out⟩
        |true=>
         have HAW:Hid (a=kP v2):=by unfold Hid;rw[HJD.out,if_pos rfl]
         have HSS:Hid (∀W:World,Calls Tryz.prog 65 #[.int .i64 t,.int .i64 q,.string r0] W fun e w' =>e= .returned (.bool v2)∧Below W.heap.size W w'):=fun W=>vQ HV HV2 W HQQ.out.1 HQQ.out.2
         have HYE:=zH (RR v2)
         clear HJD HSE
         go_upto_region 29 with fail
         have HXC:Hid (aD w7.drew w.heap.size 33 [.int .i64 t,.int .i64 q,.slice A T.now.op.length c,.slice B T.past.length d]):=HX.out.drew
         have HRC:Hid (aD w7.drew (w.heap.size+1) 33 [.int .i64 0,.int .i64 0,.slice none 0 0,.slice none 0 0]):=HR.out.drew
         have HSC:Hid (aD w7.drew h6 33 [.int .i64 t,.int .i64 q,.slice A6 T.now.op.length c6,.slice B6 T.past.length d6]):=HSM.out.drew
         have HIC:Hid (dL w7.drew lo T A6 T.now.op.length c6 B6 T.past.length d6):=HI.out.below (nV _ 1)
         have HBC:Hid (Below w.heap.size w w7.drew):=aE HB.out 1
         have HQ:Hid (∀W,aD W w.heap.size 33 [.int .i64 t,.int .i64 q,.slice A T.now.op.length c,.slice B T.past.length d]→aD W h6 33 [.int .i64 t,.int .i64 q,.slice A6 T.now.op.length c6,.slice B6 T.past.length d6]→Below w.heap.size w W→W.cell? ⟨w.heap.size,0,none⟩=some (.int .i64 t)∧W.cell? ⟨w.heap.size,1,none⟩=some (.int .i64 q)∧W.cell? ⟨w.heap.size,2,none⟩=some (.slice A T.now.op.length c)∧W.cell? ⟨w.heap.size,3,none⟩=some (.slice B T.past.length d)∧W.cell? ⟨h6,0,none⟩=some (.int .i64 t)∧W.cell? ⟨h6,1,none⟩=some (.int .i64 q)∧W.cell? ⟨h6,2,none⟩=some (.slice A6 T.now.op.length c6)∧W.cell? ⟨h6,3,none⟩=some (.slice B6 T.past.length d6)):=fun W e1 e2 _e3=>by
          obtain⟨f0,f1,f2,f3⟩:=e1.four
          obtain⟨f4,f5,f6,f7⟩:=e2.four
          exact⟨f0,f1,f2,f3,f4,f5,f6,f7⟩
         clear HX HR HSM HI HB
         refine wp_region_held_drew (S:=(fun w' =>w'.cell? ⟨w.heap.size,0,none⟩=some (.int .i64 t)∧w'.cell? ⟨w.heap.size,1,none⟩=some (.int .i64 q)∧w'.cell? ⟨w.heap.size,2,none⟩=some (.slice A T.now.op.length c)∧w'.cell? ⟨w.heap.size,3,none⟩=some (.slice B T.past.length d)∧w'.cell? ⟨h6,0,none⟩=some (.int .i64 t)∧w'.cell? ⟨h6,1,none⟩=some (.int .i64 q)∧w'.cell? ⟨h6,2,none⟩=some (.slice A6 T.now.op.length c6)∧w'.cell? ⟨h6,3,none⟩=some (.slice B6 T.past.length d6))) (by kernel_rfl) ?_ (fun hHeld=> ?_)
         ·exact HQ.out _ HXC.out HSC.out HBC.out
         obtain⟨wd,hwd⟩:∃wd,w7.drew=wd:=⟨_,rfl⟩
         rw[hwd] at HXC HRC HSC HIC HBC hHeld⊢
         clear hwd
         refine zT 0 (h:=?_)
         try simp only[Act.put,zS]
         refine zT 1 (h:=?_)
         try simp only[Act.put,zS]
         refine zT 2 (h:=?_)
         try simp only[Act.put,zS]
         refine zT 3 (h:=?_)
         try simp only[Act.put,zS]
         refine zT 4 (h:=?_)
         try simp only[Act.put,zS]
         refine zT 5 (h:=?_)
         try simp only[Act.put,zS]
         refine zT 6 (h:=?_)
         try simp only[Act.put,zS]
         refine wpAnyH_ready (rs:=[7]) (by kernel_rfl) (by simp) ?_
         refine AllReadyH.cons rfl (fun K hK=> ?_) AllReadyH.nil
         (go_simp;go_at_call 65;refine(HSS.out _).mono ?_;rintro e wc ⟨rfl,hb⟩;replace HXC:=zH (HXC.out.below hb);replace HRC:=zH (HRC.out.below hb);replace HSC:=zH (HSC.out.below hb);replace HIC:=zH (HIC.out.below hb);replace HBC:=zH (aA HBC.out hb);clear hb)
         refine hK.out _ _ ?_ (fun hHeld=> ?_)
         ·exact HQ.out _ HXC.out HSC.out HBC.out
         clear hK K
         try simp only[Act.put,zS]
         refine wpAnyH_ready (rs:=[8]) (by kernel_rfl) (by simp) ?_
         refine AllReadyH.cons rfl (fun K hK=> ?_) AllReadyH.nil
         (go_simp;go_at_call 64;refine(HYE.out _).mono ?_;rintro e wc ⟨rfl,hb⟩;replace HXC:=zH (HXC.out.below hb);replace HRC:=zH (HRC.out.below hb);replace HSC:=zH (HSC.out.below hb);replace HIC:=zH (HIC.out.below hb);replace HBC:=zH (aA HBC.out hb);clear hb)
         refine hK.out _ _ ?_ (fun hHeld=> ?_)
         ·exact HQ.out _ HXC.out HSC.out HBC.out
         clear hK K
         try simp only[Act.put,zS]
         refine wpAnyH_ready (rs:=[9]) (by kernel_rfl) (by simp) ?_
         refine AllReadyH.cons rfl (fun K hK=> ?_) AllReadyH.nil
         (obtain⟨⟨ha0,ha1,ha2,ha3,ha4,ha5,ha6,ha7⟩,⟨hb2,hb3⟩,⟨hb4,hb5⟩,⟨hb6,hb7⟩,HOUT⟩:=HRC.out.store4 (.int .i64 t) (.int .i64 q) (.slice A6 T.now.op.length c6) (.slice B6 T.past.length d6);replace HXC:=zH (HXC.out.other4 hneX (.int .i64 t) (.int .i64 q) (.slice A6 T.now.op.length c6) (.slice B6 T.past.length d6));replace HSC:=zH (HSC.out.other4 hne6 (.int .i64 t) (.int .i64 q) (.slice A6 T.now.op.length c6) (.slice B6 T.past.length d6));have HFIN:=zH (gN HIC.out HLO.out (.int .i64 t) (.int .i64 q) (.slice A6 T.now.op.length c6) (.slice B6 T.past.length d6));replace HBC:=zH (bG HBC.out (Nat.le_succ _) (.int .i64 t) (.int .i64 q) (.slice A6 T.now.op.length c6) (.slice B6 T.past.length d6));go_simp)
         refine hK.out _ _ ?_ (fun hHeld=> ?_)
         ·exact HQ.out _ HXC.out HSC.out HBC.out
         clear hK K
         try simp only[Act.put,zS]
         refine wpAnyH_ready (rs:=[10]) (by kernel_rfl) (by simp) ?_
         refine AllReadyH.cons rfl (fun K hK=> ?_) AllReadyH.nil
         go_simp
         refine hK.out _ _ ?_ (fun hHeld=> ?_)
         ·exact HQ.out _ HXC.out HSC.out HBC.out
         clear hK K
         try simp only[Act.put,zS]
         refine wpAnyH_done (by kernel_rfl) ?_ _
         go_wp2_with fail
         refine bodyPost_ret_by (aU (b:=w.heap.size+1) rfl rfl rfl HOUT) rfl ⟨A6,_,c6,B6,_,d6,by rw[HTQ.out.1,HTQ.out.2,HAW.out];rfl,HFIN.out,HBC.out⟩
       ·rw[s9,HTQ.out.1,HTQ.out.2] at HJD
        obtain⟨v1,hv⟩:∃v,aH.isS t r0=v:=⟨_,rfl⟩
        have HTR:Hid (v1=true→0≤dO t r0∧dO t r0<256):=fun h=>by
         obtain⟨y2,hy2⟩:=iV.1 (hv.trans h)
         have h1:=nK hy2
         have h2:=(bH t).2
         omega
        rw[hv,show aH.tru t r0=dO t r0 from rfl] at HJD
        obtain⟨u,hu⟩:∃v,dO t r0=v:=⟨_,rfl⟩
        have HU:=zH hu
        rw[hu] at HJD HTR
        have HSE:Hid (∀W,Calls Tryz.prog 63 #[.int .i64 t,.string r0] W fun e w' =>e= .returned (.bool v1)∧Below W.heap.size W w'):=fun W=>by
         have:=vL t r0 W HRS.out
         rw[show fY t r0=v1 from hv] at this;exact this
        go_wp2_with fail
        refine(HSE.out _).mono ?_
        rintro e w7 ⟨rfl,hb⟩
        clear hx0 hx1 hx2 hx3
        replace HX:=zH (HX.out.below hb)
        replace HR:=zH (HR.out.below hb)
        replace HSM:=zH (HSM.out.below hb)
        replace HI:=zH (HI.out.below hb)
        replace HB:=zH (aA HB.out hb)
        clear hb
        clear hv hu
        cases v1 with
        |false=>
         have HAW:Hid (a=m0):=by unfold Hid;rw[HJD.out,if_neg (by decide)]
         obtain⟨hx0,hx1,hx2,hx3⟩:=HX.out.four
         clear HJD
         obtain⟨hs0,hs1,hs2,hs3⟩:=HSM.out.four
         obtain⟨⟨ha0,ha1,ha2,ha3,ha4,ha5,ha6,ha7⟩,⟨hb2,hb3⟩,⟨hb4,hb5⟩,⟨hb6,hb7⟩,HOUT⟩:=HR.out.store4 (.int .i64 t) (.int .i64 q) (.slice A6 T.now.op.length c6) (.slice B6 T.past.length d6)
         have HBE:=zH (bG HB.out (Nat.le_succ _) (.int .i64 t) (.int .i64 q) (.slice A6 T.now.op.length c6) (.slice B6 T.past.length d6))
         have HFIN:=zH (gN HI.out HLO.out (.int .i64 t) (.int .i64 q) (.slice A6 T.now.op.length c6) (.slice B6 T.past.length d6))
         go_wp2_with fail
         refine bodyPost_ret_by (aU (b:=w.heap.size+1) rfl rfl rfl HOUT) rfl ⟨A6,_,c6,B6,_,d6,by rw[HTQ.out.1,HTQ.out.2,HAW.out];rfl,HFIN.out,HBE.out⟩
        |true=>
         obtain⟨hu0,hu1⟩:=HTR.out rfl
         have HTI:Hid (∀W:World,Calls Tryz.prog 67 #[.int .i64 t,.string r0] W fun e w' =>e= .returned (.int .i64 u)∧Below W.heap.size W w'):=fun W=>y4 HU W HRS.out
         obtain⟨z1,hz1⟩:∃z,aQ q u=z:=⟨_,rfl⟩
         have HBO:Hid (∀W:World,Calls Tryz.prog 66 #[.int .i64 q,.int .i64 u] W fun e w' =>e= .returned (.int .i64 z1)∧Below W.heap.size W w'):=fun W=>by
          have:=tA q u HQQ.out.1 HQQ.out.2 hu0 hu1 W
          rw[hz1] at this
          refine this.mono ?_
          rintro e w' ⟨h1,nn,rfl⟩
          exact⟨h1,nV _ nn⟩
         rw[hz1] at HJD
         obtain⟨v2,hv2⟩:∃v,(z1 != 0)=v:=⟨_,rfl⟩
         have hdz:decide (z1≠0)=v2:=by rw[←hv2];by_cases hzz:z1=0<;>simp[hzz]
         have HAW:Hid (a=kP v2):=by unfold Hid;rw[HJD.out,if_pos rfl,hdz]
         have HYE:=zH (RR v2)
         clear HJD HSE hu0 hu1 hz1 hdz HTR
         go_upto_region 31 with fail
         have HXC:Hid (aD w7.drew w.heap.size 33 [.int .i64 t,.int .i64 q,.slice A T.now.op.length c,.slice B T.past.length d]):=HX.out.drew
         have HRC:Hid (aD w7.drew (w.heap.size+1) 33 [.int .i64 0,.int .i64 0,.slice none 0 0,.slice none 0 0]):=HR.out.drew
         have HSC:Hid (aD w7.drew h6 33 [.int .i64 t,.int .i64 q,.slice A6 T.now.op.length c6,.slice B6 T.past.length d6]):=HSM.out.drew
         have HIC:Hid (dL w7.drew lo T A6 T.now.op.length c6 B6 T.past.length d6):=HI.out.below (nV _ 1)
         have HBC:Hid (Below w.heap.size w w7.drew):=aE HB.out 1
         have HQ:Hid (∀W,aD W w.heap.size 33 [.int .i64 t,.int .i64 q,.slice A T.now.op.length c,.slice B T.past.length d]→aD W h6 33 [.int .i64 t,.int .i64 q,.slice A6 T.now.op.length c6,.slice B6 T.past.length d6]→Below w.heap.size w W→W.cell? ⟨w.heap.size,0,none⟩=some (.int .i64 t)∧W.cell? ⟨w.heap.size,1,none⟩=some (.int .i64 q)∧W.cell? ⟨w.heap.size,2,none⟩=some (.slice A T.now.op.length c)∧W.cell? ⟨w.heap.size,3,none⟩=some (.slice B T.past.length d)∧W.cell? ⟨h6,0,none⟩=some (.int .i64 t)∧W.cell? ⟨h6,1,none⟩=some (.int .i64 q)∧W.cell? ⟨h6,2,none⟩=some (.slice A6 T.now.op.length c6)∧W.cell? ⟨h6,3,none⟩=some (.slice B6 T.past.length d6)):=fun W e1 e2 _e3=>by
          obtain⟨f0,f1,f2,f3⟩:=e1.four
          obtain⟨f4,f5,f6,f7⟩:=e2.four
          exact⟨f0,f1,f2,f3,f4,f5,f6,f7⟩
         clear HX HR HSM HI HB
         refine wp_region_held_drew (S:=(fun w' =>w'.cell? ⟨w.heap.size,0,none⟩=some (.int .i64 t)∧w'.cell? ⟨w.heap.size,1,none⟩=some (.int .i64 q)∧w'.cell? ⟨w.heap.size,2,none⟩=some (.slice A T.now.op.length c)∧w'.cell? ⟨w.heap.size,3,none⟩=some (.slice B T.past.length d)∧w'.cell? ⟨h6,0,none⟩=some (.int .i64 t)∧w'.cell? ⟨h6,1,none⟩=some (.int .i64 q)∧w'.cell? ⟨h6,2,none⟩=some (.slice A6 T.now.op.length c6)∧w'.cell? ⟨h6,3,none⟩=some (.slice B6 T.past.length d6))) (by kernel_rfl) ?_ (fun hHeld=> ?_)
         ·exact HQ.out _ HXC.out HSC.out HBC.out
         obtain⟨wd,hwd⟩:∃wd,w7.drew=wd:=⟨_,rfl⟩
         rw[hwd] at HXC HRC HSC HIC HBC hHeld⊢
         clear hwd
         refine zT 0 (h:=?_)
         try simp only[Act.put,zS]
         refine zT 1 (h:=?_)
         try simp only[Act.put,zS]
         refine zT 2 (h:=?_)
         try simp only[Act.put,zS]
         refine zT 3 (h:=?_)
         try simp only[Act.put,zS]
         refine zT 4 (h:=?_)
         try simp only[Act.put,zS]
         refine zT 5 (h:=?_)
         try simp only[Act.put,zS]
         refine zT 6 (h:=?_)
         try simp only[Act.put,zS]
         refine wpAnyH_ready (rs:=[7]) (by kernel_rfl) (by simp) ?_
         refine AllReadyH.cons rfl (fun K hK=> ?_) AllReadyH.nil
         (go_simp;go_at_call 67;refine(HTI.out _).mono ?_;rintro e wc ⟨rfl,hb⟩;replace HXC:=zH (HXC.out.below hb);replace HRC:=zH (HRC.out.below hb);replace HSC:=zH (HSC.out.below hb);replace HIC:=zH (HIC.out.below hb);replace HBC:=zH (aA HBC.out hb);clear hb)
         refine hK.out _ _ ?_ (fun hHeld=> ?_)
         ·exact HQ.out _ HXC.out HSC.out HBC.out
         clear hK K
         try simp only[Act.put,zS]
         refine wpAnyH_ready (rs:=[8]) (by kernel_rfl) (by simp) ?_
         refine AllReadyH.cons rfl (fun K hK=> ?_) AllReadyH.nil
         (go_simp;go_at_call 66;refine(HBO.out _).mono ?_;rintro e wc ⟨rfl,hb⟩;replace HXC:=zH (HXC.out.below hb);replace HRC:=zH (HRC.out.below hb);replace HSC:=zH (HSC.out.below hb);replace HIC:=zH (HIC.out.below hb);replace HBC:=zH (aA HBC.out hb);clear hb)
         refine hK.out _ _ ?_ (fun hHeld=> ?_)
         ·exact HQ.out _ HXC.out HSC.out HBC.out
         clear hK K
         try simp only[Act.put,zS]
         refine zT 9 (h:=?_)
         try simp only[Act.put,zS]
         refine wpAnyH_ready (rs:=[10]) (by kernel_rfl) (by simp) ?_
         refine AllReadyH.cons rfl (fun K hK=> ?_) AllReadyH.nil
         (go_simp;go_at_call 64;refine(HYE.out _).mono ?_;rintro e wc ⟨rfl,hb⟩;replace HXC:=zH (HXC.out.below hb);replace HRC:=zH (HRC.out.below hb);replace HSC:=zH (HSC.out.below hb);replace HIC:=zH (HIC.out.below hb);replace HBC:=zH (aA HBC.out hb);clear hb)
         refine hK.out _ _ ?_ (fun hHeld=> ?_)
         ·exact HQ.out _ HXC.out HSC.out HBC.out
         clear hK K
         try simp only[Act.put,zS]
         refine wpAnyH_ready (rs:=[11]) (by kernel_rfl) (by simp) ?_
         refine AllReadyH.cons rfl (fun K hK=> ?_) AllReadyH.nil
         (obtain⟨⟨ha0,ha1,ha2,ha3,ha4,ha5,ha6,ha7⟩,⟨hb2,hb3⟩,⟨hb4,hb5⟩,⟨hb6,hb7⟩,HOUT⟩:=HRC.out.store4 (.int .i64 t) (.int .i64 q) (.slice A6 T.now.op.length c6) (.slice B6 T.past.length d6);replace HXC:=zH (HXC.out.other4 hneX (.int .i64 t) (.int .i64 q) (.slice A6 T.now.op.length c6) (.slice B6 T.past.length d6));replace HSC:=zH (HSC.out.other4 hne6 (.int .i64 t) (.int .i64 q) (.slice A6 T.now.op.length c6) (.slice B6 T.past.length d6));have HFIN:=zH (gN HIC.out HLO.out (.int .i64 t) (.int .i64 q) (.slice A6 T.now.op.length c6) (.slice B6 T.past.length d6));replace HBC:=zH (bG HBC.out (Nat.le_succ _) (.int .i64 t) (.int .i64 q) (.slice A6 T.now.op.length c6) (.slice B6 T.past.length d6));go_simp)
         refine hK.out _ _ ?_ (fun hHeld=> ?_)
         ·exact HQ.out _ HXC.out HSC.out HBC.out
         clear hK K
         try simp only[Act.put,zS]
         refine wpAnyH_ready (rs:=[12]) (by kernel_rfl) (by simp) ?_
         refine AllReadyH.cons rfl (fun K hK=> ?_) AllReadyH.nil
         go_simp
         refine hK.out _ _ ?_ (fun hHeld=> ?_)
         ·exact HQ.out _ HXC.out HSC.out HBC.out
         clear hK K
         try simp only[Act.put,zS]
         refine wpAnyH_done (by kernel_rfl) ?_ _
         go_wp2_with fail
         refine bodyPost_ret_by (aU (b:=w.heap.size+1) rfl rfl rfl HOUT) rfl ⟨A6,_,c6,B6,_,d6,by rw[HTQ.out.1,HTQ.out.2,HAW.out];rfl,HFIN.out,HBC.out⟩
       ·rw[yE,HTQ.out.1,HTQ.out.2] at HJD
        obtain⟨v1,hv⟩:∃v,cY t r0=v:=⟨_,rfl⟩
        obtain⟨oc,hoc⟩:∃v,eJ t q r0=v:=⟨_,rfl⟩
        rw[show sR t r0=v1 from hv,show p5 t q r0=oc.isSome by rw[←hoc];rfl] at HJD
        have HSE:Hid (∀W,Calls Tryz.prog 68 #[.int .i64 t,.string r0] W fun e w' =>e= .returned (.bool v1)∧Below W.heap.size W w'):=fun W=>by
         have:=DL t r0 W HRS.out
         rw[hv] at this
         refine this.mono ?_
         rintro e w' ⟨h1,nn,rfl⟩
         exact⟨h1,nV _ nn⟩
        have HCH:Hid (∀W,Calls Tryz.prog 69 #[.int .i64 t,.int .i64 q,.string r0] W fun e w' =>e= .returned (.tuple #[.int .i64 (oc.getD (-1)),.bool oc.isSome])∧Below W.heap.size W w'):=fun W=>by
         have:=KU t q r0 W HRS.out
         rw[hoc] at this
         refine this.mono ?_
         rintro e w' ⟨h1,nn,rfl⟩
         exact⟨h1,nV _ nn⟩
        obtain⟨g0,hg0⟩:∃g,oc.getD (-1)=g:=⟨_,rfl⟩
        obtain⟨v2,hv2⟩:∃g,oc.isSome=g:=⟨_,rfl⟩
        rw[hg0,hv2] at HCH
        rw[hv2] at HJD
        clear hv hoc hg0 hv2
        go_wp2_with fail
        refine(HSE.out _).mono ?_
        rintro e w7 ⟨rfl,hb⟩
        clear hx0 hx1 hx2 hx3
        replace HX:=zH (HX.out.below hb)
        replace HR:=zH (HR.out.below hb)
        replace HSM:=zH (HSM.out.below hb)
        replace HI:=zH (HI.out.below hb)
        replace HB:=zH (aA HB.out hb)
        clear hb
        cases v1 with
        |false=>
         have HAW:Hid (a=m0):=by unfold Hid;rw[HJD.out,if_neg (by decide)]
         obtain⟨hx0,hx1,hx2,hx3⟩:=HX.out.four
         clear HJD
         obtain⟨hs0,hs1,hs2,hs3⟩:=HSM.out.four
         obtain⟨⟨ha0,ha1,ha2,ha3,ha4,ha5,ha6,ha7⟩,⟨hb2,hb3⟩,⟨hb4,hb5⟩,⟨hb6,hb7⟩,HOUT⟩:=HR.out.store4 (.int .i64 t) (.int .i64 q) (.slice A6 T.now.op.length c6) (.slice B6 T.past.length d6)
         have HBE:=zH (bG HB.out (Nat.le_succ _) (.int .i64 t) (.int .i64 q) (.slice A6 T.now.op.length c6) (.slice B6 T.past.length d6))
         have HFIN:=zH (gN HI.out HLO.out (.int .i64 t) (.int .i64 q) (.slice A6 T.now.op.length c6) (.slice B6 T.past.length d6))
         go_wp2_with fail
         refine bodyPost_ret_by (aU (b:=w.heap.size+1) rfl rfl rfl HOUT) rfl ⟨A6,_,c6,B6,_,d6,by rw[HTQ.out.1,HTQ.out.2,HAW.out];rfl,HFIN.out,HBE.out⟩
        |true=>
         have HAW:Hid (a=kP v2):=by unfold Hid;rw[HJD.out,if_pos rfl]
         have HYE:=zH (RR v2)
         obtain⟨hx0,hx1,hx2,hx3⟩:=HX.out.four
         clear HJD HSE
         go_wp2_with fail
         refine(HCH.out _).mono ?_
         rintro e w8 ⟨rfl,hb⟩
         clear hx0 hx1 hx2 hx3 HCH
         replace HX:=zH (HX.out.below hb)
         replace HR:=zH (HR.out.below hb)
         replace HSM:=zH (HSM.out.below hb)
         replace HI:=zH (HI.out.below hb)
         replace HB:=zH (aA HB.out hb)
         clear hb
         go_upto_region 34 with fail
         have HXC:Hid (aD w8.drew w.heap.size 33 [.int .i64 t,.int .i64 q,.slice A T.now.op.length c,.slice B T.past.length d]):=HX.out.drew
         have HRC:Hid (aD w8.drew (w.heap.size+1) 33 [.int .i64 0,.int .i64 0,.slice none 0 0,.slice none 0 0]):=HR.out.drew
         have HSC:Hid (aD w8.drew h6 33 [.int .i64 t,.int .i64 q,.slice A6 T.now.op.length c6,.slice B6 T.past.length d6]):=HSM.out.drew
         have HIC:Hid (dL w8.drew lo T A6 T.now.op.length c6 B6 T.past.length d6):=HI.out.below (nV _ 1)
         have HBC:Hid (Below w.heap.size w w8.drew):=aE HB.out 1
         have HQ:Hid (∀W,aD W w.heap.size 33 [.int .i64 t,.int .i64 q,.slice A T.now.op.length c,.slice B T.past.length d]→aD W h6 33 [.int .i64 t,.int .i64 q,.slice A6 T.now.op.length c6,.slice B6 T.past.length d6]→Below w.heap.size w W→W.cell? ⟨w.heap.size,0,none⟩=some (.int .i64 t)∧W.cell? ⟨w.heap.size,1,none⟩=some (.int .i64 q)∧W.cell? ⟨w.heap.size,2,none⟩=some (.slice A T.now.op.length c)∧W.cell? ⟨w.heap.size,3,none⟩=some (.slice B T.past.length d)∧W.cell? ⟨h6,0,none⟩=some (.int .i64 t)∧W.cell? ⟨h6,1,none⟩=some (.int .i64 q)∧W.cell? ⟨h6,2,none⟩=some (.slice A6 T.now.op.length c6)∧W.cell? ⟨h6,3,none⟩=some (.slice B6 T.past.length d6)):=fun W e1 e2 _e3=>by
          obtain⟨f0,f1,f2,f3⟩:=e1.four
          obtain⟨f4,f5,f6,f7⟩:=e2.four
          exact⟨f0,f1,f2,f3,f4,f5,f6,f7⟩
         clear HX HR HSM HI HB
         refine wp_region_held_drew (S:=(fun w' =>w'.cell? ⟨w.heap.size,0,none⟩=some (.int .i64 t)∧w'.cell? ⟨w.heap.size,1,none⟩=some (.int .i64 q)∧w'.cell? ⟨w.heap.size,2,none⟩=some (.slice A T.now.op.length c)∧w'.cell? ⟨w.heap.size,3,none⟩=some (.slice B T.past.length d)∧w'.cell? ⟨h6,0,none⟩=some (.int .i64 t)∧w'.cell? ⟨h6,1,none⟩=some (.int .i64 q)∧w'.cell? ⟨h6,2,none⟩=some (.slice A6 T.now.op.length c6)∧w'.cell? ⟨h6,3,none⟩=some (.slice B6 T.past.length d6))) (by kernel_rfl) ?_ (fun hHeld=> ?_)
         ·exact HQ.out _ HXC.out HSC.out HBC.out
         obtain⟨wd,hwd⟩:∃wd,w8.drew=wd:=⟨_,rfl⟩
         rw[hwd] at HXC HRC HSC HIC HBC hHeld⊢
         clear hwd
         refine zT 0 (h:=?_)
         try simp only[Act.put,zS]
         refine zT 1 (h:=?_)
         try simp only[Act.put,zS]
         refine wpAnyH_ready (rs:=[2]) (by kernel_rfl) (by simp) ?_
         refine AllReadyH.cons rfl (fun K hK=> ?_) AllReadyH.nil
         (go_simp;go_at_call 64;refine(HYE.out _).mono ?_;rintro e wc ⟨rfl,hb⟩;replace HXC:=zH (HXC.out.below hb);replace HRC:=zH (HRC.out.below hb);replace HSC:=zH (HSC.out.below hb);replace HIC:=zH (HIC.out.below hb);replace HBC:=zH (aA HBC.out hb);clear hb)
         refine hK.out _ _ ?_ (fun hHeld=> ?_)
         ·exact HQ.out _ HXC.out HSC.out HBC.out
         clear hK K
         try simp only[Act.put,zS]
         refine wpAnyH_ready (rs:=[3]) (by kernel_rfl) (by simp) ?_
         refine AllReadyH.cons rfl (fun K hK=> ?_) AllReadyH.nil
         (obtain⟨⟨ha0,ha1,ha2,ha3,ha4,ha5,ha6,ha7⟩,⟨hb2,hb3⟩,⟨hb4,hb5⟩,⟨hb6,hb7⟩,HOUT⟩:=HRC.out.store4 (.int .i64 t) (.int .i64 q) (.slice A6 T.now.op.length c6) (.slice B6 T.past.length d6);replace HXC:=zH (HXC.out.other4 hneX (.int .i64 t) (.int .i64 q) (.slice A6 T.now.op.length c6) (.slice B6 T.past.length d6));replace HSC:=zH (HSC.out.other4 hne6 (.int .i64 t) (.int .i64 q) (.slice A6 T.now.op.length c6) (.slice B6 T.past.length d6));have HFIN:=zH (gN HIC.out HLO.out (.int .i64 t) (.int .i64 q) (.slice A6 T.now.op.length c6) (.slice B6 T.past.length d6));replace HBC:=zH (bG HBC.out (Nat.le_succ _) (.int .i64 t) (.int .i64 q) (.slice A6 T.now.op.length c6) (.slice B6 T.past.length d6));go_simp)
         refine hK.out _ _ ?_ (fun hHeld=> ?_)
         ·exact HQ.out _ HXC.out HSC.out HBC.out
         clear hK K
         try simp only[Act.put,zS]
         refine wpAnyH_ready (rs:=[4]) (by kernel_rfl) (by simp) ?_
         refine AllReadyH.cons rfl (fun K hK=> ?_) AllReadyH.nil
         go_simp
         refine hK.out _ _ ?_ (fun hHeld=> ?_)
         ·exact HQ.out _ HXC.out HSC.out HBC.out
         clear hK K
         try simp only[Act.put,zS]
         refine wpAnyH_done (by kernel_rfl) ?_ _
         go_wp2_with fail
         refine bodyPost_ret_by (aU (b:=w.heap.size+1) rfl rfl rfl HOUT) rfl ⟨A6,_,c6,B6,_,d6,by rw[HTQ.out.1,HTQ.out.2,HAW.out];rfl,HFIN.out,HBC.out⟩
       ·rw[AN _ g1 g2 g3] at HJD
        have l1:=j3 g1
        have l2:=j3 g2
        have l3:=j3 g3
        clear g1 g2 g3
        obtain⟨hs0,hs1,hs2,hs3⟩:=HSM.out.four
        obtain⟨⟨ha0,ha1,ha2,ha3,ha4,ha5,ha6,ha7⟩,⟨hb2,hb3⟩,⟨hb4,hb5⟩,⟨hb6,hb7⟩,HOUT⟩:=HR.out.store4 (.int .i64 t) (.int .i64 q) (.slice A6 T.now.op.length c6) (.slice B6 T.past.length d6)
        have HBE:=zH (bG HB.out (Nat.le_succ _) (.int .i64 t) (.int .i64 q) (.slice A6 T.now.op.length c6) (.slice B6 T.past.length d6))
        have HFIN:=zH (gN HI.out HLO.out (.int .i64 t) (.int .i64 q) (.slice A6 T.now.op.length c6) (.slice B6 T.past.length d6))
        go_wp2_with fail
        refine bodyPost_ret_by (aU (b:=w.heap.size+1) rfl rfl rfl HOUT) rfl ⟨A6,_,c6,B6,_,d6,by rw[HTQ.out.1,HTQ.out.2,HJD.out];rfl,HFIN.out,HBE.out⟩
      ·have hcb:((y:Int)==32)=false:=by rw[beq_eq_false_iff_ne];omega
       have hcn:((y:Int) != 32)=true:=by rw[bne,hcb];rfl
       have HN:Hid (∀k:Nat,k<j+1→(bL s)[k]?≠some 32):=fun k hk=>by
        by_cases hkj:k=j
        ·subst hkj;rw[hget];intro e;exact h (h32.1 (Option.some.inj e))
        ·exact HJ.out k (by omega)
       clear hget h32 h
       go_wp2_with fail
       go_roundw
       case rel=>exact⟨j+1,by omega,by first|trivial|go_num,by first|trivial|rfl,HN⟩
       case measure=>simp[Go.RowKit.intOf];omega
     ·obtain rfl:j=s.size:=by omega
      have HNO:∀k:Nat,(bL s)[k]?≠some 32:=fun k=>by
       by_cases hk:k<s.size
       ·exact HJ.out k hk
       ·rw[List.getElem?_eq_none (by rw[gF];omega)];intro e;cases e
      have HAW:Hid (a=m0):=HA.out.trans ((OB HPL.out HNO).trans (xX _ _))
      have hne:((s.size:Int)==(s.size:Int))=true:=by rw[beq_iff_eq]
      clear HNO hj hlt
      obtain⟨hs0,hs1,hs2,hs3⟩:=HSM.out.four
      obtain⟨⟨ha0,ha1,ha2,ha3,ha4,ha5,ha6,ha7⟩,⟨hb2,hb3⟩,⟨hb4,hb5⟩,⟨hb6,hb7⟩,HOUT⟩:=HR.out.store4 (.int .i64 t) (.int .i64 q) (.slice A6 T.now.op.length c6) (.slice B6 T.past.length d6)
      have HBE:=zH (bG HB.out (Nat.le_succ _) (.int .i64 t) (.int .i64 q) (.slice A6 T.now.op.length c6) (.slice B6 T.past.length d6))
      have HFIN:=zH (gN HI.out HLO.out (.int .i64 t) (.int .i64 q) (.slice A6 T.now.op.length c6) (.slice B6 T.past.length d6))
      go_wp2_with fail
      refine bodyPost_ret_by (aU (b:=w.heap.size+1) rfl rfl rfl HOUT) rfl ⟨A6,_,c6,B6,_,d6,by rw[HTQ.out.1,HTQ.out.2,HAW.out];rfl,HFIN.out,HBE.out⟩
end Go.Proofs.YtfhjcacfchkdpaaGreatDoor
