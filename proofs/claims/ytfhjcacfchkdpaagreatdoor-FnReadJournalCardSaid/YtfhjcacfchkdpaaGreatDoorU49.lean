/-
  What the proofs of this seat's statements share (TrwD).
-/
import Derived.Test.YtfhjcacfchkdpaaGreatDoorU44
import Derived.Test.YtfhjcacfchkdpaaGreatDoorU48
set_option maxRecDepth 100000
set_option maxHeartbeats 32000000
namespace Go.Proofs.YtfhjcacfchkdpaaGreatDoor
open Go.RowKit
def PZ(w:World)(e:Ending)(w' :World):Prop:=∃(T:aL) (A:Option Addr) (n c:Nat) (B:Option Addr) (m d:Nat) (L:Option Addr) (ln lc:Nat) (ds:List bK),e= .returned (.tuple #[.agg #[.int .i64 T.things,.int .i64 T.now.known,.slice A n c,.slice B m d],.slice L ln lc])∧bN w' T A n c B m d∧cD T∧sA w' L ln lc ds∧((L=none∧ds.length=0∧lc=0)∨∃b,L=some ⟨b,0,none⟩)∧(∀x∈ds,x.2.size≤100)∧Below w.heap.size w w'
theorem MJ(n:Nat)(w:World):i7 (w.alloc (.cells (madeCells #[Value.int .i64 0,.string ⟨#[]⟩] (n*2)) 41)) (some ⟨w.heap.size,0,none⟩) (List.replicate n ((0:Int),(⟨#[]⟩:ByteArray))):=by
 intro _
 refine⟨w.heap.size,0,rfl,by rw[World.size_alloc];exact Nat.lt_succ_self _,fun i d hd=> ?_⟩
 have hil:i<n:=by
  have:=(List.getElem?_eq_some_iff.1 hd).1
  rwa [List.length_replicate] at this
 rw[List.getElem?_replicate_of_lt hil] at hd
 cases hd
 have h1:=(DG w n []).cell (i:=i*2) (by omega)
 have h2:=(DG w n []).cell (i:=i*2+1) (by omega)
 unfold EF at h1 h2
 rw[if_neg (by omega),if_pos (by omega)] at h1
 rw[if_neg (by omega),if_neg (by omega)] at h2
 exact⟨by rw[Nat.zero_add];exact h1,by rw[Nat.zero_add];exact h2⟩
def MQ:Obj:= .cells (madeCells #[Value.int .i64 0,.string ⟨#[]⟩] (41*2)) 41
theorem L5(W:World):(Instr.makeSlice 24 (.int .i64 41) (.int .i64 41)).run Tryz.prog W= .ok (.slice (some ⟨W.heap.size,0,none⟩) 41 41) (W.alloc MQ):=KV 41 (by omega) W
theorem NW{b:Nat}{wx:World}{T:TypeId}{cs:List Value}(hb:aD wx b T cs):∃wz,wx.alloc MQ=wz∧Hid (i7 wz (some ⟨wx.heap.size,0,none⟩) (List.replicate 41 ((0:Int),(⟨#[]⟩:ByteArray))))∧Hid (Below wx.heap.size wx wz)∧Hid (b<wx.heap.size):=
 ⟨_,rfl,MJ 41 wx,oA _ _,hb.lt⟩
theorem JO{W:World}{b:Nat}{T:TypeId}{cs:List Value}(h:aD W b T cs):∃ws,W=ws∧Hid (aD ws b T cs):=⟨W,rfl,h⟩
theorem L3{w:World}{lo n c:Nat}{L:Option Addr}{ds:List bK}(h:bU w lo (.slice L n c) ds):(L=none∧ds.length=0∧c=0)∨∃b,L=some ⟨b,0,none⟩:=by
 rcases h.2 with⟨e,hl⟩|⟨g,cap,cur,e,_⟩
 ·cases e;exact .inl ⟨rfl,hl,rfl⟩
 ·cases e;exact .inr ⟨g,rfl⟩
theorem uP{w:World}{L:Option Addr}(h:i7 w L (List.replicate 41 ((0:Int),(⟨#[]⟩:ByteArray)))):sA w L 41 41 (List.replicate 41 ((0:Int),(⟨#[]⟩:ByteArray)))∧∀x∈List.replicate 41 ((0:Int),(⟨#[]⟩:ByteArray)),x.2.size≤100:=
 ⟨⟨by rw[List.length_replicate],by omega,Nat.le_refl _,by simp[maxLen],h⟩,fun x hx=>by rw[(List.mem_replicate.1 hx).2];exact Nat.zero_le _⟩
set_option linter.unusedSimpArgs false in
theorem SC(A:Option Addr)(nn c:Nat)(zs:List Int)(w:World)(hn:nn=zs.length)(hc:nn≤c)(hm:c≤maxLen)(hr:∀z∈zs,0≤z∧z≤255)(hA:cB .u8 w A zs):
  Calls Tryz.prog 12 #[.slice A nn c] w (PZ w):=by
 have HX:Hid (aD (w.alloc (.cells #[.int .i64 0,.int .i64 0,.slice none 0 0,.slice none 0 0] 33)) w.heap.size 33 [.int .i64 0,.int .i64 0,.slice none 0 0,.slice none 0 0]):=aD.new w _ [.int .i64 0,.int .i64 0,.slice none 0 0,.slice none 0 0]
 have HB:=zH (oA w (.cells #[.int .i64 0,.int .i64 0,.slice none 0 0,.slice none 0 0] 33))
 have HO:=zH (QU A nn c zs (w.alloc (.cells #[.int .i64 0,.int .i64 0,.slice none 0 0,.slice none 0 0] 33)) hn hc hm hr (hA.alloc _))
 clear hn hc hm hr hA
 go_enter Tryz.func12,Tryz.ntmps12
 go_upto_region 1 with fail
 obtain⟨W1,hW1⟩:∃W,w.alloc (.cells #[.int .i64 0,.int .i64 0,.slice none 0 0,.slice none 0 0] 33)=W:=⟨_,rfl⟩
 rw[hW1] at HO HX HB⊢
 clear hW1
 have hs1:=HX.out.lt
 go_wp2_with fail
 refine HO.out.mono ?_
 rintro e w2 ⟨rfl,hrd,hb⟩
 have HR:=zH hrd
 have HX2:=zH (HX.out.below hb)
 have HB2:=zH (aA HB.out hb)
 have hs2:W1.heap.size≤w2.heap.size:=hb.size
 obtain⟨g,hg⟩:∃g,W1.heap.size=g:=⟨_,rfl⟩
 rw[hg] at HR hs1 hs2⊢
 clear hrd hb HO HX HB hg
 go_wp2_with fail
 refine(PX g 0 12 _ (by omega) (by omega) (by omega) HR.out).mono ?_
 rintro e w3 ⟨T,B1,n1,c1,B2,m1,d1,rfl,hin,hsm,_,hr,hg⟩
 have HX3:=zH (HX2.out.grownO hg (fun j e=>by cases e;omega))
 have HB3:=zH (sN HB2.out hg HB2.out.size (by omega))
 have HR3:=zH hr
 have HT3:=zH hin
 have HSM:=zH hsm
 have hgw:g<w2.heap.size:=HR.out.lt
 have hs3:w2.heap.size≤w3.heap.size:=hg.size
 clear hr hg hin hsm HX2 HB2 HR
 go_upto_region 3 with fail
 have hZ:=aD.new w3 33 [.int .i64 T.things,.int .i64 T.now.known,.slice B1 n1 c1,.slice B2 m1 d1]
 have hbel:=oA w3 (.cells #[.int .i64 T.things,.int .i64 T.now.known,.slice B1 n1 c1,.slice B2 m1 d1] 33)
 have HX4:=zH (HX3.out.below hbel)
 have HB4:=zH (aA HB3.out hbel)
 have HR4:=zH (HR3.out.below hbel)
 have HT4:=zH (HT3.out.below hbel)
 obtain⟨b5,hb5⟩:∃b5,w3.heap.size=b5:=⟨_,rfl⟩
 obtain⟨w4,hw4⟩:∃W,w3.alloc (.cells #[.int .i64 T.things,.int .i64 T.now.known,.slice B1 n1 c1,.slice B2 m1 d1] 33)=W:=⟨_,rfl⟩
 rw[hw4] at hZ HX4 HB4 HR4 HT4⊢
 rw[hb5] at hZ hs3
 try rw[hb5]
 have HZ4:=zH hZ
 clear hw4 hb5 hZ hbel HX3 HB3 HR3 HT3
 have hmk:=fun W=>L5 W
 go_wp2_with fail
 refine(E4 _ (by omega) (by omega) (by omega) HR4.out).mono ?_
 rintro e w5 ⟨bo,rfl,_,hr,hg⟩
 have HX:=zH ((HX4.out.grownO hg (fun j e=>by cases e;omega)).drew)
 have HZ:=zH (HZ4.out.grownO hg (fun j e=>by cases e;omega))
 have HB:Hid (Below w.heap.size w w5.drew):=aE (sN HB4.out hg HB4.out.size (show w.heap.size≤g by omega)) 1
 have HT:Hid (dL w5.drew w2.heap.size T B1 n1 c1 B2 m1 d1):=(HT4.out.keep (sH hg hgw)).below (aE (Below.refl _ _) 1)
 have HRD:=zH (hr.drewN 1)
 have HQ:Hid (∀W,Below w5.heap.size w5 W→(W.cell? ⟨b5,0,none⟩=some (.int .i64 T.things)∧W.cell? ⟨b5,1,none⟩=some (.int .i64 T.now.known)∧W.cell? ⟨b5,2,none⟩=some (.slice B1 n1 c1)∧W.cell? ⟨b5,3,none⟩=some (.slice B2 m1 d1))):=fun W hb=>⟨(HZ.out.below hb).cell rfl,(HZ.out.below hb).cell rfl,(HZ.out.below hb).cell rfl,(HZ.out.below hb).cell rfl⟩
 have HBC:Hid (Below w5.heap.size w5 w5.drew):=aE (Below.refl _ _) 1
 obtain⟨hc0,hc1,hc2,hc3⟩:=HQ.out w5 (Below.refl _ _)
 have hs5:w4.heap.size≤w5.heap.size:=hg.size
 have HLT:Hid (w.heap.size<w2.heap.size∧w.heap.size≠b5):=⟨by omega,by omega⟩
 clear hr hg HX4 HB4 HT4 HR4 HZ4
 cases bo with
 |true=>
  go_upto_region 4 with fail
  refine wp_region_held_drew (S:=(fun w' =>(w'.cell? ⟨b5,0,none⟩=some (.int .i64 T.things)∧w'.cell? ⟨b5,1,none⟩=some (.int .i64 T.now.known)∧w'.cell? ⟨b5,2,none⟩=some (.slice B1 n1 c1)∧w'.cell? ⟨b5,3,none⟩=some (.slice B2 m1 d1)))) (by kernel_rfl) ?_ (fun hHeld=> ?_)
  ·exact HQ.out _ HBC.out
  obtain⟨wd,hwd⟩:∃wd,w5.drew=wd:=⟨_,rfl⟩
  have HQZ:=zH HZ.out.drew
  rw[hwd] at HX HB HT HQZ hHeld⊢
  clear hwd
  refine zT 0 (h:=?_)
  try simp only[Act.put,zS]
  refine wpAnyH_ready (rs:=[1,2]) (by kernel_rfl) (by simp) ?_
  refine AllReadyH.cons rfl (fun K hK=> ?_) ?_
  ·(go_simp;obtain⟨wz,hwz,HM,HBl,HNE⟩:=NW HX.out;(try rw[hwz]);replace HX:=zH (HX.out.below HBl.out);replace HB:=zH (aA HB.out HBl.out);replace HT:=zH (HT.out.below HBl.out);(try replace HQZ:=zH (HQZ.out.below HBl.out));clear hwz HBl)
   refine hK.out _ _ ?_ (fun hHeld=> ?_)
   ·exact⟨HQZ.out.cell rfl,HQZ.out.cell rfl,HQZ.out.cell rfl,HQZ.out.cell rfl⟩
   clear hK K
   try simp only[Act.put,zS]
   refine wpAnyH_ready (rs:=[2]) (by kernel_rfl) (by simp) ?_
   refine AllReadyH.cons rfl (fun K hK=> ?_) ?_
   ·(obtain⟨⟨ha0,ha1,ha2,ha3,ha4,ha5,ha6,ha7⟩,⟨hb2,hb3⟩,⟨hb4,hb5⟩,⟨hb6,hb7⟩,HOUT⟩:=HX.out.store4 (.int .i64 T.things) (.int .i64 T.now.known) (.slice B1 n1 c1) (.slice B2 m1 d1);replace HB:=zH (bG HB.out (Nat.le_refl _) (.int .i64 T.things) (.int .i64 T.now.known) (.slice B1 n1 c1) (.slice B2 m1 d1));replace HT:=zH (HT.out.keep (nL HLT.out.1 (.int .i64 T.things) (.int .i64 T.now.known) (.slice B1 n1 c1) (.slice B2 m1 d1)));(try replace HM:=zH (wB HM.out (fI.set4 w.heap.size _ (.int .i64 T.things) (.int .i64 T.now.known) (.slice B1 n1 c1) (.slice B2 m1 d1)) (fun _ ad e=>by cases e;exact Nat.ne_of_gt HNE.out)));replace HQZ:=zH (HQZ.out.other4 (g:=w.heap.size) HLT.out.2 (.int .i64 T.things) (.int .i64 T.now.known) (.slice B1 n1 c1) (.slice B2 m1 d1));replace HX:=HOUT;clear HOUT;go_simp;obtain⟨ws,hws,HXn⟩:=JO HX.out;rw[hws] at HB HT HQZ⊢;(try rw[hws] at HM);replace HX:=HXn;clear hws HXn)
    refine hK.out _ _ ?_ (fun hHeld=> ?_)
    ·exact⟨HQZ.out.cell rfl,HQZ.out.cell rfl,HQZ.out.cell rfl,HQZ.out.cell rfl⟩
    clear hK K
    try simp only[Act.put,zS]
    refine wpAnyH_ready (rs:=[3]) (by kernel_rfl) (by simp) ?_
    refine AllReadyH.cons rfl (fun K hK=> ?_) ?_
    ·go_simp
     refine hK.out _ _ ?_ (fun hHeld=> ?_)
     ·exact⟨HQZ.out.cell rfl,HQZ.out.cell rfl,HQZ.out.cell rfl,HQZ.out.cell rfl⟩
     clear hK K
     try simp only[Act.put,zS]
     refine wpAnyH_done (by kernel_rfl) ?_ _
     go_wp2_with fail
     refine bodyPost_ret_by (aU (b:=w.heap.size) rfl rfl (by rfl) HX) rfl ⟨T,_,_,_,_,_,_,_,_,_,_,(by rfl),HT.out.at_,HSM.out,(uP HM.out).1,.inr ⟨_,rfl⟩,(uP HM.out).2,HB.out⟩
    exact AllReadyH.nil
   exact AllReadyH.nil
  refine AllReadyH.cons rfl (fun K hK=> ?_) ?_
  ·(obtain⟨⟨ha0,ha1,ha2,ha3,ha4,ha5,ha6,ha7⟩,⟨hb2,hb3⟩,⟨hb4,hb5⟩,⟨hb6,hb7⟩,HOUT⟩:=HX.out.store4 (.int .i64 T.things) (.int .i64 T.now.known) (.slice B1 n1 c1) (.slice B2 m1 d1);replace HB:=zH (bG HB.out (Nat.le_refl _) (.int .i64 T.things) (.int .i64 T.now.known) (.slice B1 n1 c1) (.slice B2 m1 d1));replace HT:=zH (HT.out.keep (nL HLT.out.1 (.int .i64 T.things) (.int .i64 T.now.known) (.slice B1 n1 c1) (.slice B2 m1 d1)));(try replace HM:=zH (wB HM.out (fI.set4 w.heap.size _ (.int .i64 T.things) (.int .i64 T.now.known) (.slice B1 n1 c1) (.slice B2 m1 d1)) (fun _ ad e=>by cases e;exact Nat.ne_of_gt HNE.out)));replace HQZ:=zH (HQZ.out.other4 (g:=w.heap.size) HLT.out.2 (.int .i64 T.things) (.int .i64 T.now.known) (.slice B1 n1 c1) (.slice B2 m1 d1));replace HX:=HOUT;clear HOUT;go_simp;obtain⟨ws,hws,HXn⟩:=JO HX.out;rw[hws] at HB HT HQZ⊢;(try rw[hws] at HM);replace HX:=HXn;clear hws HXn)
   refine hK.out _ _ ?_ (fun hHeld=> ?_)
   ·exact⟨HQZ.out.cell rfl,HQZ.out.cell rfl,HQZ.out.cell rfl,HQZ.out.cell rfl⟩
   clear hK K
   try simp only[Act.put,zS]
   refine wpAnyH_ready (rs:=[1]) (by kernel_rfl) (by simp) ?_
   refine AllReadyH.cons rfl (fun K hK=> ?_) ?_
   ·(go_simp;obtain⟨wz,hwz,HM,HBl,HNE⟩:=NW HX.out;(try rw[hwz]);replace HX:=zH (HX.out.below HBl.out);replace HB:=zH (aA HB.out HBl.out);replace HT:=zH (HT.out.below HBl.out);(try replace HQZ:=zH (HQZ.out.below HBl.out));clear hwz HBl)
    refine hK.out _ _ ?_ (fun hHeld=> ?_)
    ·exact⟨HQZ.out.cell rfl,HQZ.out.cell rfl,HQZ.out.cell rfl,HQZ.out.cell rfl⟩
    clear hK K
    try simp only[Act.put,zS]
    refine wpAnyH_ready (rs:=[3]) (by kernel_rfl) (by simp) ?_
    refine AllReadyH.cons rfl (fun K hK=> ?_) ?_
    ·go_simp
     refine hK.out _ _ ?_ (fun hHeld=> ?_)
     ·exact⟨HQZ.out.cell rfl,HQZ.out.cell rfl,HQZ.out.cell rfl,HQZ.out.cell rfl⟩
     clear hK K
     try simp only[Act.put,zS]
     refine wpAnyH_done (by kernel_rfl) ?_ _
     go_wp2_with fail
     refine bodyPost_ret_by (aU (b:=w.heap.size) rfl rfl (by rfl) HX) rfl ⟨T,_,_,_,_,_,_,_,_,_,_,(by rfl),HT.out.at_,HSM.out,(uP HM.out).1,.inr ⟨_,rfl⟩,(uP HM.out).2,HB.out⟩
    exact AllReadyH.nil
   exact AllReadyH.nil
  exact AllReadyH.nil
 |false=>
  go_upto_region 5 with fail
  refine wp_region_held_drew (S:=(fun w' =>(w'.cell? ⟨b5,0,none⟩=some (.int .i64 T.things)∧w'.cell? ⟨b5,1,none⟩=some (.int .i64 T.now.known)∧w'.cell? ⟨b5,2,none⟩=some (.slice B1 n1 c1)∧w'.cell? ⟨b5,3,none⟩=some (.slice B2 m1 d1)))) (by kernel_rfl) ?_ (fun hHeld=> ?_)
  ·exact HQ.out _ HBC.out
  obtain⟨wd,hwd⟩:∃wd,w5.drew=wd:=⟨_,rfl⟩
  have HQZ:=zH HZ.out.drew
  rw[show w5.drewN 1=w5.drew from rfl] at HRD
  rw[hwd] at HX HB HT HRD HQZ hHeld⊢
  clear hwd
  refine zT 0 (h:=?_)
  try simp only[Act.put,zS]
  refine zT 1 (h:=?_)
  try simp only[Act.put,zS]
  refine zT 2 (h:=?_)
  try simp only[Act.put,zS]
  refine wpAnyH_ready (rs:=[3]) (by kernel_rfl) (by simp) ?_
  refine AllReadyH.cons rfl (fun K hK=> ?_) ?_
  ·(go_simp;go_at_call 48;refine(OH g _ T B1 B2 n1 c1 m1 d1 _ w2.heap.size hgw HT.out HSM.out (by omega) HRD.out).mono ?_;rintro e w6 ⟨v,ds,rfl,ho,hl,hsz,hr,hg⟩;obtain⟨L,lc,rfl,_⟩:=ho.form;have hsl:=HX.out.lt;replace HX:=zH (HX.out.grownO hg (fun j e=>by cases e;omega));replace HB:=zH (sN HB.out hg HB.out.size (show w.heap.size≤g by omega));replace HT:=zH (HT.out.keep (sH hg hgw));replace HQZ:=zH (HQZ.out.grownO hg (fun j e=>by cases e;omega));have HL5:=zH (show ds.length≤5 from hl);have HO:=zH ho;have HSZ:=zH hsz;clear hr hg ho hsz hl)
   refine hK.out _ _ ?_ (fun hHeld=> ?_)
   ·exact⟨HQZ.out.cell rfl,HQZ.out.cell rfl,HQZ.out.cell rfl,HQZ.out.cell rfl⟩
   clear hK K
   try simp only[Act.put,zS]
   refine wpAnyH_ready (rs:=[4]) (by kernel_rfl) (by simp) ?_
   refine AllReadyH.cons rfl (fun K hK=> ?_) ?_
   ·(obtain⟨⟨ha0,ha1,ha2,ha3,ha4,ha5,ha6,ha7⟩,⟨hb2,hb3⟩,⟨hb4,hb5⟩,⟨hb6,hb7⟩,HOUT⟩:=HX.out.store4 (.int .i64 T.things) (.int .i64 T.now.known) (.slice B1 n1 c1) (.slice B2 m1 d1);replace HB:=zH (bG HB.out (Nat.le_refl _) (.int .i64 T.things) (.int .i64 T.now.known) (.slice B1 n1 c1) (.slice B2 m1 d1));replace HT:=zH (HT.out.keep (nL HLT.out.1 (.int .i64 T.things) (.int .i64 T.now.known) (.slice B1 n1 c1) (.slice B2 m1 d1)));replace HO:=zH (HO.out.keep (nL hsl (.int .i64 T.things) (.int .i64 T.now.known) (.slice B1 n1 c1) (.slice B2 m1 d1)));replace HQZ:=zH (HQZ.out.other4 (g:=w.heap.size) HLT.out.2 (.int .i64 T.things) (.int .i64 T.now.known) (.slice B1 n1 c1) (.slice B2 m1 d1));replace HX:=HOUT;clear HOUT;go_simp)
    refine hK.out _ _ ?_ (fun hHeld=> ?_)
    ·exact⟨HQZ.out.cell rfl,HQZ.out.cell rfl,HQZ.out.cell rfl,HQZ.out.cell rfl⟩
    clear hK K
    try simp only[Act.put,zS]
    refine wpAnyH_ready (rs:=[5]) (by kernel_rfl) (by simp) ?_
    refine AllReadyH.cons rfl (fun K hK=> ?_) ?_
    ·go_simp
     refine hK.out _ _ ?_ (fun hHeld=> ?_)
     ·exact⟨HQZ.out.cell rfl,HQZ.out.cell rfl,HQZ.out.cell rfl,HQZ.out.cell rfl⟩
     clear hK K
     try simp only[Act.put,zS]
     refine wpAnyH_done (by kernel_rfl) ?_ _
     go_wp2_with fail
     refine bodyPost_ret_by (aU (b:=w.heap.size) rfl rfl rfl HX) rfl ⟨T,_,_,_,_,_,_,_,_,_,ds,rfl,HT.out.at_,HSM.out,bU.row HO.out (by have:=HL5.out;omega),L3 HO.out,HSZ.out,HB.out⟩
    exact AllReadyH.nil
   exact AllReadyH.nil
  exact AllReadyH.nil
end Go.Proofs.YtfhjcacfchkdpaaGreatDoor
