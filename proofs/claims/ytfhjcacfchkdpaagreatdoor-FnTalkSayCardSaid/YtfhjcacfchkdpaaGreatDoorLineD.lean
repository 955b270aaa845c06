/-
  Chapter 9, by the door: what is drawn: a line of text for a talk; a talk and a line.
-/
import Derived.Test.YtfhjcacfchkdpaaGreatDoorV3
import Derived.Deep.RegionHeld3
set_option maxRecDepth 100000
set_option maxHeartbeats 32000000
namespace Go.Proofs.YtfhjcacfchkdpaaGreatDoor
open Go.RowKit
theorem sN{B:Nat}{a w w' :World}{g:Nat}(h:Below B a w)(hg:w.grownBy w' (some g))(hB:B≤w.heap.size)(hr:B≤g):Below B a w' :=
 h.grown hg hB (fun k e=>by cases e;exact hr)
theorem deed_size(d:bK):(b8 d).size≤d.2.size+5:=by
 rw[←gF]
 unfold b8
 rw[kO]
 unfold eV
 split
 ·rw[List.length_append];show 5+(bL d.2).length≤_;rw[gF];omega
 split
 ·rw[List.length_append];show 4+(bL d.2).length≤_;rw[gF];omega
 split
 ·show 4≤_;omega
 ·exact Nat.zero_le _
theorem OE{w w' :World}(hb:Below w.heap.size w w')(row:Option Nat):w.grownBy w' row:=⟨hb.os,hb.tape,hb.output,hb.size,fun k hk _=>hb.block k hk⟩
def LineP(g u:Nat)(w:World)(e:Ending)(w' :World):Prop:=∃s:ByteArray,e= .returned (.string s)∧s.size≤110∧Rd w' g u∧w.grownBy w' (some g)
def wordsK:List ByteArray:=[⟨#[107,110,111,119,110]⟩,⟨#[111,112,101,110]⟩,⟨#[110,111,119]⟩,⟨#[112,97,115,116]⟩]
def wordsO:List ByteArray:=[⟨#[]⟩,⟨#[116,101,108,108]⟩,⟨#[97,115,107]⟩,⟨#[115,101,116,116,108,101,100]⟩,⟨#[115,101,110,115,101,32,91,97]⟩,⟨#[32,107,110,111,119,110]⟩,⟨#[112,111,115,115,105,98,108,101,32]⟩,⟨#[98,97,99,107,32,49]⟩,⟨#[115,101,116,116,108,101,100,32,97,124,98]⟩,⟨#[110,111,119,32]⟩]
def wordsT:List ByteArray:=[⟨#[115,101,116,116,108,101,100,32]⟩,⟨#[112,111,115,115,105,98,108,101,32]⟩]
theorem wordsK_size{x:ByteArray}(h:x∈wordsK):x.size≤110:=by
 simp only[wordsK,List.mem_cons,List.not_mem_nil,or_false] at h
 rcases h with rfl|rfl|rfl|rfl<;>decide
theorem wordsO_size{x:ByteArray}(h:x∈wordsO):x.size≤110:=by
 simp only[wordsO,List.mem_cons,List.not_mem_nil,or_false] at h
 rcases h with rfl|rfl|rfl|rfl|rfl|rfl|rfl|rfl|rfl|rfl<;>decide
theorem wordsT_size{x:ByteArray}(h:x∈wordsT):x.size≤9:=by
 simp only[wordsT,List.mem_cons,List.not_mem_nil,or_false] at h
 rcases h with rfl|rfl<;>decide
def Lit2(w:World)(b:Nat):Prop:=b<w.heap.size∧∀k:Int,0≤k→k<2→∃x:ByteArray,x∈wordsT∧w.cell? ⟨b,k.toNat,none⟩=some (.string x)
theorem lit2_gen{g:Nat}{w wx:World}(hg:w.grownBy wx (some g)){u:Nat}(hr:Rd wx g u):∃wz,wx.alloc (.cells #[.string ⟨#[115,101,116,116,108,101,100,32]⟩,.string ⟨#[112,111,115,115,105,98,108,101,32]⟩] 9)=wz∧Hid (Lit2 wz wx.heap.size)∧Hid (w.grownBy wz (some g))∧Hid (Rd wz g u)∧Hid (Below wx.heap.size wx wz)∧Hid (g≠wx.heap.size):=by
 have hb:=oA wx (.cells #[.string ⟨#[115,101,116,116,108,101,100,32]⟩,.string ⟨#[112,111,115,115,105,98,108,101,32]⟩] 9)
 refine⟨_,rfl,⟨by rw[World.size_alloc];omega,fun k h0 h1=> ?_⟩,bB hg _,hr.below hb,hb,fun e=>by have:=hr.lt;omega⟩
 obtain⟨x,hx,hc⟩:=pR (w:=wx) (g:=g) wordsT (t:=9) (World.grownBy.refl _ _) hr.lt h0 (by simp only[wordsT,List.length_cons,List.length_nil];omega)
 exact⟨x,hx,hc⟩
theorem Lit2.grown{w w' :World}{b g:Nat}(h:Lit2 w b)(hg:w.grownBy w' (some g))(hne:g≠b):Lit2 w' b:=⟨Nat.lt_of_lt_of_le h.1 hg.size,fun k h0 h1=>by
 obtain⟨x,hx,hc⟩:=h.2 k h0 h1
 exact⟨x,hx,(World.cell?_of_block (a:=⟨b,k.toNat,none⟩) (hg.block b h.1 (fun e=>by injection e with e;exact hne e.symm))).trans hc⟩⟩
theorem Lit2.cell{w w' :World}{b g:Nat}{i:Nat}{v:Value}(h:Lit2 w b)(hc:w.cell? ⟨b,i,none⟩=some v)(hg:w.grownBy w' (some g))(hne:g≠b):w'.cell? ⟨b,i,none⟩=some v:=
 (World.cell?_of_block (a:=⟨b,i,none⟩) (hg.block b h.1 (fun e=>by injection e with e;exact hne e.symm))).trans hc
theorem line_end{w w' :World}{g u u' :Nat}(hr:Rd w' g u)(hg:w.grownBy w' (some g))(hu:u≤u'):Hid (Rd w' g u'∧w.grownBy w' (some g)):=⟨hr.more hu,hg⟩
set_option linter.unusedSimpArgs false in
theorem line_any(g u:Nat)(t q:Int)(A B:Option Addr)(n c m d:Nat)(w:World)(hu:u≤700000)(hR:Rd w g u):
  Calls Tryz.prog 59 #[.pointer (some ⟨g,0,none⟩),.agg #[.int .i64 t,.int .i64 q,.slice A n c,.slice B m d]] w (LineP g (u+100) w):=by
 have hlt:=hR.lt
 have HX:Hid (aD (w.alloc (.cells #[.int .i64 t,.int .i64 q,.slice A n c,.slice B m d] 33)) w.heap.size 33 [.int .i64 t,.int .i64 q,.slice A n c,.slice B m d]):=aD.new w _ [.int .i64 t,.int .i64 q,.slice A n c,.slice B m d]
 have HR0:=zH (hR.below (oA w (.cells #[.int .i64 t,.int .i64 q,.slice A n c,.slice B m d] 33)))
 have HG0:=zH (bB (World.grownBy.refl w (some g)) (.cells #[.int .i64 t,.int .i64 q,.slice A n c,.slice B m d] 33))
 clear hR
 go_enter Tryz.func59,Tryz.ntmps59
 go_upto_region 1 with fail
 obtain⟨W0,hW0⟩:∃W,w.alloc (.cells #[.int .i64 t,.int .i64 q,.slice A n c,.slice B m d] 33)=W:=⟨_,rfl⟩
 rw[hW0] at HX HR0 HG0⊢
 clear hW0
 go_wp2_with fail
 refine(cE g u 6 _ (by omega) (by omega) (by omega) HR0.out).mono ?_
 rintro e w1 ⟨k,rfl,hk0,hk1,hr,hg⟩
 have hk6:=hk1 (by omega)
 have hlt1:g<w1.heap.size:=hr.lt
 have HR1:=zH hr
 have HG1:=zH (HG0.out.trans hg)
 have HX1:=zH (HX.out.grownO hg (fun j e=>by cases e;omega))
 clear hr hg hk1 HR0 HG0 HX
 have h6:k=0∨k=1∨k=2∨k=3∨k=4∨k=5:=by omega
 clear hk0 hk6
 have HBX:Hid (w.heap.size<w1.heap.size):=HX1.out.lt
 rcases h6 with rfl|rfl|rfl|rfl|rfl|rfl
 ·go_wp2_with fail
  refine(cE g (u+1) 4 _ (by omega) (by omega) (by omega) (HR1.out.below (oA w1 _))).mono ?_
  rintro e w2 ⟨k2,rfl,hk20,hk21,hr,hg⟩
  have hk2:=hk21 (by omega)
  obtain⟨x,hx,hcell⟩:=pR wordsK hg hlt1 hk20 (by simp only[wordsK,List.length_cons,List.length_nil];omega)
  have HS:=zH (wordsK_size hx)
  have HP:Hid (Rd w2 g (u+100)∧w.grownBy w2 (some g)):=⟨hr.more (by omega),(bB HG1.out _).trans hg⟩
  clear hr hg hx hk21
  go_wp2_with fail
  go_ret
  exact⟨x,rfl,HS.out,HP.out⟩
 ·go_wp2_with fail
  refine(cE g (u+1) 10 _ (by omega) (by omega) (by omega) (HR1.out.below (oA w1 _))).mono ?_
  rintro e w2 ⟨k2,rfl,hk20,hk21,hr,hg⟩
  have hk2:=hk21 (by omega)
  obtain⟨x,hx,hcell⟩:=pR wordsO hg hlt1 hk20 (by simp only[wordsO,List.length_cons,List.length_nil];omega)
  have HS:=zH (wordsO_size hx)
  have HP:Hid (Rd w2 g (u+100)∧w.grownBy w2 (some g)):=⟨hr.more (by omega),(bB HG1.out _).trans hg⟩
  clear hr hg hx hk21
  go_wp2_with fail
  go_ret
  exact⟨x,rfl,HS.out,HP.out⟩
 ·have HPK:Hid (∀X,Rd X g (u+1)→Calls Tryz.prog 41 #[.pointer (some ⟨g,0,none⟩),.int .i64 2] X fun e w' =>GW g (u+1) 2 X e w'):=fun X h=>cE g (u+1) 2 X (by omega) (by omega) (by omega) h
  have HSN:Hid (∀X,Rd X g (u+2)→Calls Tryz.prog 96 #[.pointer (some ⟨g,0,none⟩),.int .i64 t,.int .i64 2] X (xC 13 g (u+29) X)):=fun X h=>(NM g (u+2) t X (by omega) h).mono fun e w' ⟨s,a1,a2,a3,a4,a5⟩=>⟨s,a1,a2,a3,a4.more (by omega),a5⟩
  go_upto_region 7 with fail
  have HXC:Hid (aD w1.drew w.heap.size 33 [.int .i64 t,.int .i64 q,.slice A n c,.slice B m d]):=HX1.out.drew
  have HRX:Hid (Rd w1.drew g (u+1)):=HR1.out.drewN 1
  have HGX:Hid (w.grownBy w1.drew (some g)):=eM HG1.out 1
  refine wp_region_held_drew (S:=(fun w' =>w'.cell? ⟨w.heap.size,0,none⟩=some (.int .i64 t))) (by kernel_rfl) ?_ (fun hHeld=> ?_)
  ·exact HXC.out.cell rfl
  obtain⟨wd,hwd⟩:∃wd,w1.drew=wd:=⟨_,rfl⟩
  rw[hwd] at HXC HRX HGX hHeld⊢
  clear hwd
  refine zT 1 (h:=?_)
  try simp only[Act.put,zS]
  refine zT 5 (h:=?_)
  try simp only[Act.put,zS]
  refine zT 6 (h:=?_)
  try simp only[Act.put,zS]
  refine zT 7 (h:=?_)
  try simp only[Act.put,zS]
  refine wpAnyH_ready (rs:=[0,2]) (by kernel_rfl) (by simp) ?_
  refine AllReadyH.cons rfl (fun K hK=> ?_) ?_
  ·(go_simp;obtain⟨wz,hwz,HLT,HGn,HRn,HBl,HNE⟩:=lit2_gen HGX.out HRX.out;rw[hwz];replace HXC:=zH (HXC.out.below HBl.out);replace HGX:=HGn;replace HRX:=HRn;clear hwz HBl;(try(have hx2:=HLT.out.2 k2 hk20 hk2;obtain⟨x,hx,hcell⟩:=hx2;have HXS:=zH (wordsT_size hx);clear hx)))
   refine hK.out _ _ ?_ (fun hHeld=> ?_)
   ·exact HXC.out.cell rfl
   clear hK K
   try simp only[Act.put,zS]
   refine wpAnyH_ready (rs:=[2]) (by kernel_rfl) (by simp) ?_
   refine AllReadyH.cons rfl (fun K hK=> ?_) AllReadyH.nil
   (go_simp;go_at_call 41;refine(HPK.out _ HRX.out).mono ?_;rintro e wp ⟨k2,rfl,hk20,hk21,hr,hg⟩;have hk2:=hk21 (by omega);replace HRX:=zH hr;replace HGX:=zH (HGX.out.trans hg);replace HXC:=zH (HXC.out.grownO hg (fun j e=>by cases e;omega));(try replace HLT:=zH (HLT.out.grown hg HNE.out));clear hr hg hk21;(try(have hx2:=HLT.out.2 k2 hk20 hk2;obtain⟨x,hx,hcell⟩:=hx2;have HXS:=zH (wordsT_size hx);clear hx)))
   refine hK.out _ _ ?_ (fun hHeld=> ?_)
   ·exact HXC.out.cell rfl
   clear hK K
   try simp only[Act.put,zS]
   refine zT 3 (h:=?_)
   try simp only[Act.put,zS]
   refine wpAnyH_ready (rs:=[4,8]) (by kernel_rfl) (by simp) ?_
   refine AllReadyH.cons rfl (fun K hK=> ?_) ?_
   ·go_simp
    refine hK.out _ _ ?_ (fun hHeld=> ?_)
    ·exact HXC.out.cell rfl
    clear hK K
    try simp only[Act.put,zS]
    refine wpAnyH_ready (rs:=[8]) (by kernel_rfl) (by simp) ?_
    refine AllReadyH.cons rfl (fun K hK=> ?_) AllReadyH.nil
    (go_simp;go_at_call 96;refine(HSN.out _ HRX.out).mono ?_;rintro e ws ⟨s,rfl,hs1,hs2,hr,hg⟩;replace HRX:=zH hr;replace HGX:=zH (HGX.out.trans hg);replace HXC:=zH (HXC.out.grownO hg (fun j e=>by cases e;omega));(try replace hcell:=HLT.out.cell hcell hg HNE.out);(try replace HLT:=zH (HLT.out.grown hg HNE.out));clear hr hg)
    refine hK.out _ _ ?_ (fun hHeld=> ?_)
    ·exact HXC.out.cell rfl
    clear hK K
    try simp only[Act.put,zS]
    refine wpAnyH_ready (rs:=[9]) (by kernel_rfl) (by simp) ?_
    refine AllReadyH.cons rfl (fun K hK=> ?_) AllReadyH.nil
    (have hz:¬(9223372036854775807<x.size+s.size):=(by have:=HXS.out;omega);go_simp)
    refine hK.out _ _ ?_ (fun hHeld=> ?_)
    ·exact HXC.out.cell rfl
    clear hK K
    try simp only[Act.put,zS]
    refine wpAnyH_ready (rs:=[10]) (by kernel_rfl) (by simp) ?_
    refine AllReadyH.cons rfl (fun K hK=> ?_) AllReadyH.nil
    go_simp
    refine hK.out _ _ ?_ (fun hHeld=> ?_)
    ·exact HXC.out.cell rfl
    clear hK K
    try simp only[Act.put,zS]
    refine wpAnyH_done (by kernel_rfl) ?_ _
    go_wp2_with fail
    go_ret
    exact⟨_,rfl,by rw[ByteArray.size_append];have:=HXS.out;omega,(line_end HRX.out HGX.out (by omega)).out⟩
   refine AllReadyH.cons rfl (fun K hK=> ?_) ?_
   ·(go_simp;go_at_call 96;refine(HSN.out _ HRX.out).mono ?_;rintro e ws ⟨s,rfl,hs1,hs2,hr,hg⟩;replace HRX:=zH hr;replace HGX:=zH (HGX.out.trans hg);replace HXC:=zH (HXC.out.grownO hg (fun j e=>by cases e;omega));(try replace hcell:=HLT.out.cell hcell hg HNE.out);(try replace HLT:=zH (HLT.out.grown hg HNE.out));clear hr hg)
    refine hK.out _ _ ?_ (fun hHeld=> ?_)
    ·exact HXC.out.cell rfl
    clear hK K
    try simp only[Act.put,zS]
    refine wpAnyH_ready (rs:=[4]) (by kernel_rfl) (by simp) ?_
    refine AllReadyH.cons rfl (fun K hK=> ?_) AllReadyH.nil
    go_simp
    refine hK.out _ _ ?_ (fun hHeld=> ?_)
    ·exact HXC.out.cell rfl
    clear hK K
    try simp only[Act.put,zS]
    refine wpAnyH_ready (rs:=[9]) (by kernel_rfl) (by simp) ?_
    refine AllReadyH.cons rfl (fun K hK=> ?_) AllReadyH.nil
    (have hz:¬(9223372036854775807<x.size+s.size):=(by have:=HXS.out;omega);go_simp)
    refine hK.out _ _ ?_ (fun hHeld=> ?_)
    ·exact HXC.out.cell rfl
    clear hK K
    try simp only[Act.put,zS]
    refine wpAnyH_ready (rs:=[10]) (by kernel_rfl) (by simp) ?_
    refine AllReadyH.cons rfl (fun K hK=> ?_) AllReadyH.nil
    go_simp
    refine hK.out _ _ ?_ (fun hHeld=> ?_)
    ·exact HXC.out.cell rfl
    clear hK K
    try simp only[Act.put,zS]
    refine wpAnyH_done (by kernel_rfl) ?_ _
    go_wp2_with fail
    go_ret
    exact⟨_,rfl,by rw[ByteArray.size_append];have:=HXS.out;omega,(line_end HRX.out HGX.out (by omega)).out⟩
   exact AllReadyH.nil
  refine AllReadyH.cons rfl (fun K hK=> ?_) ?_
  ·(go_simp;go_at_call 41;refine(HPK.out _ HRX.out).mono ?_;rintro e wp ⟨k2,rfl,hk20,hk21,hr,hg⟩;have hk2:=hk21 (by omega);replace HRX:=zH hr;replace HGX:=zH (HGX.out.trans hg);replace HXC:=zH (HXC.out.grownO hg (fun j e=>by cases e;omega));(try replace HLT:=zH (HLT.out.grown hg HNE.out));clear hr hg hk21;(try(have hx2:=HLT.out.2 k2 hk20 hk2;obtain⟨x,hx,hcell⟩:=hx2;have HXS:=zH (wordsT_size hx);clear hx)))
   refine hK.out _ _ ?_ (fun hHeld=> ?_)
   ·exact HXC.out.cell rfl
   clear hK K
   try simp only[Act.put,zS]
   refine wpAnyH_ready (rs:=[0,8]) (by kernel_rfl) (by simp) ?_
   refine AllReadyH.cons rfl (fun K hK=> ?_) ?_
   ·(go_simp;obtain⟨wz,hwz,HLT,HGn,HRn,HBl,HNE⟩:=lit2_gen HGX.out HRX.out;rw[hwz];replace HXC:=zH (HXC.out.below HBl.out);replace HGX:=HGn;replace HRX:=HRn;clear hwz HBl;(try(have hx2:=HLT.out.2 k2 hk20 hk2;obtain⟨x,hx,hcell⟩:=hx2;have HXS:=zH (wordsT_size hx);clear hx)))
    refine hK.out _ _ ?_ (fun hHeld=> ?_)
    ·exact HXC.out.cell rfl
    clear hK K
    try simp only[Act.put,zS]
    refine zT 3 (h:=?_)
    try simp only[Act.put,zS]
    refine wpAnyH_ready (rs:=[4,8]) (by kernel_rfl) (by simp) ?_
    refine AllReadyH.cons rfl (fun K hK=> ?_) ?_
    ·go_simp
     refine hK.out _ _ ?_ (fun hHeld=> ?_)
     ·exact HXC.out.cell rfl
     clear hK K
     try simp only[Act.put,zS]
     refine wpAnyH_ready (rs:=[8]) (by kernel_rfl) (by simp) ?_
     refine AllReadyH.cons rfl (fun K hK=> ?_) AllReadyH.nil
     (go_simp;go_at_call 96;refine(HSN.out _ HRX.out).mono ?_;rintro e ws ⟨s,rfl,hs1,hs2,hr,hg⟩;replace HRX:=zH hr;replace HGX:=zH (HGX.out.trans hg);replace HXC:=zH (HXC.out.grownO hg (fun j e=>by cases e;omega));(try replace hcell:=HLT.out.cell hcell hg HNE.out);(try replace HLT:=zH (HLT.out.grown hg HNE.out));clear hr hg)
     refine hK.out _ _ ?_ (fun hHeld=> ?_)
     ·exact HXC.out.cell rfl
     clear hK K
     try simp only[Act.put,zS]
     refine wpAnyH_ready (rs:=[9]) (by kernel_rfl) (by simp) ?_
     refine AllReadyH.cons rfl (fun K hK=> ?_) AllReadyH.nil
     (have hz:¬(9223372036854775807<x.size+s.size):=(by have:=HXS.out;omega);go_simp)
     refine hK.out _ _ ?_ (fun hHeld=> ?_)
     ·exact HXC.out.cell rfl
     clear hK K
     try simp only[Act.put,zS]
     refine wpAnyH_ready (rs:=[10]) (by kernel_rfl) (by simp) ?_
     refine AllReadyH.cons rfl (fun K hK=> ?_) AllReadyH.nil
     go_simp
     refine hK.out _ _ ?_ (fun hHeld=> ?_)
     ·exact HXC.out.cell rfl
     clear hK K
     try simp only[Act.put,zS]
     refine wpAnyH_done (by kernel_rfl) ?_ _
     go_wp2_with fail
     go_ret
     exact⟨_,rfl,by rw[ByteArray.size_append];have:=HXS.out;omega,(line_end HRX.out HGX.out (by omega)).out⟩
    refine AllReadyH.cons rfl (fun K hK=> ?_) ?_
    ·(go_simp;go_at_call 96;refine(HSN.out _ HRX.out).mono ?_;rintro e ws ⟨s,rfl,hs1,hs2,hr,hg⟩;replace HRX:=zH hr;replace HGX:=zH (HGX.out.trans hg);replace HXC:=zH (HXC.out.grownO hg (fun j e=>by cases e;omega));(try replace hcell:=HLT.out.cell hcell hg HNE.out);(try replace HLT:=zH (HLT.out.grown hg HNE.out));clear hr hg)
     refine hK.out _ _ ?_ (fun hHeld=> ?_)
     ·exact HXC.out.cell rfl
     clear hK K
     try simp only[Act.put,zS]
     refine wpAnyH_ready (rs:=[4]) (by kernel_rfl) (by simp) ?_
     refine AllReadyH.cons rfl (fun K hK=> ?_) AllReadyH.nil
     go_simp
     refine hK.out _ _ ?_ (fun hHeld=> ?_)
     ·exact HXC.out.cell rfl
     clear hK K
     try simp only[Act.put,zS]
     refine wpAnyH_ready (rs:=[9]) (by kernel_rfl) (by simp) ?_
     refine AllReadyH.cons rfl (fun K hK=> ?_) AllReadyH.nil
     (have hz:¬(9223372036854775807<x.size+s.size):=(by have:=HXS.out;omega);go_simp)
     refine hK.out _ _ ?_ (fun hHeld=> ?_)
     ·exact HXC.out.cell rfl
     clear hK K
     try simp only[Act.put,zS]
     refine wpAnyH_ready (rs:=[10]) (by kernel_rfl) (by simp) ?_
     refine AllReadyH.cons rfl (fun K hK=> ?_) AllReadyH.nil
     go_simp
     refine hK.out _ _ ?_ (fun hHeld=> ?_)
     ·exact HXC.out.cell rfl
     clear hK K
     try simp only[Act.put,zS]
     refine wpAnyH_done (by kernel_rfl) ?_ _
     go_wp2_with fail
     go_ret
     exact⟨_,rfl,by rw[ByteArray.size_append];have:=HXS.out;omega,(line_end HRX.out HGX.out (by omega)).out⟩
    exact AllReadyH.nil
   refine AllReadyH.cons rfl (fun K hK=> ?_) ?_
   ·(go_simp;go_at_call 96;refine(HSN.out _ HRX.out).mono ?_;rintro e ws ⟨s,rfl,hs1,hs2,hr,hg⟩;replace HRX:=zH hr;replace HGX:=zH (HGX.out.trans hg);replace HXC:=zH (HXC.out.grownO hg (fun j e=>by cases e;omega));(try replace hcell:=HLT.out.cell hcell hg HNE.out);(try replace HLT:=zH (HLT.out.grown hg HNE.out));clear hr hg)
    refine hK.out _ _ ?_ (fun hHeld=> ?_)
    ·exact HXC.out.cell rfl
    clear hK K
    try simp only[Act.put,zS]
    refine wpAnyH_ready (rs:=[0]) (by kernel_rfl) (by simp) ?_
    refine AllReadyH.cons rfl (fun K hK=> ?_) AllReadyH.nil
    (go_simp;obtain⟨wz,hwz,HLT,HGn,HRn,HBl,HNE⟩:=lit2_gen HGX.out HRX.out;rw[hwz];replace HXC:=zH (HXC.out.below HBl.out);replace HGX:=HGn;replace HRX:=HRn;clear hwz HBl;(try(have hx2:=HLT.out.2 k2 hk20 hk2;obtain⟨x,hx,hcell⟩:=hx2;have HXS:=zH (wordsT_size hx);clear hx)))
    refine hK.out _ _ ?_ (fun hHeld=> ?_)
    ·exact HXC.out.cell rfl
    clear hK K
    try simp only[Act.put,zS]
    refine zT 3 (h:=?_)
    try simp only[Act.put,zS]
    refine wpAnyH_ready (rs:=[4]) (by kernel_rfl) (by simp) ?_
    refine AllReadyH.cons rfl (fun K hK=> ?_) AllReadyH.nil
    go_simp
    refine hK.out _ _ ?_ (fun hHeld=> ?_)
    ·exact HXC.out.cell rfl
    clear hK K
    try simp only[Act.put,zS]
    refine wpAnyH_ready (rs:=[9]) (by kernel_rfl) (by simp) ?_
    refine AllReadyH.cons rfl (fun K hK=> ?_) AllReadyH.nil
    (have hz:¬(9223372036854775807<x.size+s.size):=(by have:=HXS.out;omega);go_simp)
    refine hK.out _ _ ?_ (fun hHeld=> ?_)
    ·exact HXC.out.cell rfl
    clear hK K
    try simp only[Act.put,zS]
    refine wpAnyH_ready (rs:=[10]) (by kernel_rfl) (by simp) ?_
    refine AllReadyH.cons rfl (fun K hK=> ?_) AllReadyH.nil
    go_simp
    refine hK.out _ _ ?_ (fun hHeld=> ?_)
    ·exact HXC.out.cell rfl
    clear hK K
    try simp only[Act.put,zS]
    refine wpAnyH_done (by kernel_rfl) ?_ _
    go_wp2_with fail
    go_ret
    exact⟨_,rfl,by rw[ByteArray.size_append];have:=HXS.out;omega,(line_end HRX.out HGX.out (by omega)).out⟩
   exact AllReadyH.nil
  exact AllReadyH.nil
 ·have hc0:=HX1.out.cell (i:=0) (v:= .int .i64 t) rfl
  go_wp2_with fail
  refine(YW g (u+1) t _ (by omega) HR1.out).mono ?_
  rintro e w2 ⟨s,rfl,hs1,hs2,hr,hg⟩
  have hz:(9223372036854775807<6+s.size)=False:=by simp;omega
  have HP:Hid (Rd w2 g (u+100)∧w.grownBy w2 (some g)):=⟨hr.more (by omega),HG1.out.trans hg⟩
  clear hr hg hc0
  go_wp2_with fail
  go_ret
  exact⟨_,rfl,by rw[ByteArray.size_append];show 6+s.size≤110;omega,HP.out⟩
 ·have hc0:=HX1.out.cell (i:=0) (v:= .int .i64 t) rfl
  have hc1:=HX1.out.cell (i:=1) (v:= .int .i64 q) rfl
  have hc2:=HX1.out.cell (i:=2) (v:= .slice A n c) rfl
  have hc3:=HX1.out.cell (i:=3) (v:= .slice B m d) rfl
  go_wp2_with fail
  refine(FD g (u+1) t q (.slice A n c) (.slice B m d) A B n c m d rfl rfl w1 (by omega) HR1.out).mono ?_
  rintro e w2 ⟨kd,s,rfl,hs,hr,hg⟩
  have HR2:=zH hr
  have HG2:=zH (HG1.out.trans hg)
  have HDS:=zH (deed_size (kd,s))
  clear hr hg hc0 hc1 hc2 hc3
  go_wp2_with fail
  refine(oL kd s w2 (by omega)).mono ?_
  rintro e w3 ⟨rfl,hb⟩
  have HP:Hid (Rd w3 g (u+100)∧w.grownBy w3 (some g)):=⟨(HR2.out.below hb).more (by omega),HG2.out.trans (OE hb (some g))⟩
  clear hb
  go_wp2_with fail
  go_ret
  exact⟨_,rfl,by have h9:(b8 (kd,s)).size≤s.size+5:=HDS.out;omega,HP.out⟩
 ·have hc0:=HX1.out.cell (i:=0) (v:= .int .i64 t) rfl
  have hc1:=HX1.out.cell (i:=1) (v:= .int .i64 q) rfl
  have hc2:=HX1.out.cell (i:=2) (v:= .slice A n c) rfl
  have hc3:=HX1.out.cell (i:=3) (v:= .slice B m d) rfl
  go_wp2_with fail
  refine(FD g (u+1) t q (.slice A n c) (.slice B m d) A B n c m d rfl rfl w1 (by omega) HR1.out).mono ?_
  rintro e w2 ⟨kd,s,rfl,hs,hr,hg⟩
  have HR2:=zH hr
  have HG2:=zH (HG1.out.trans hg)
  have HDS:=zH (deed_size (kd,s))
  clear hr hg hc0 hc1 hc2 hc3
  go_wp2_with fail
  refine(oL kd s w2 (by omega)).mono ?_
  rintro e w3 ⟨rfl,hb⟩
  have HP:Hid (Rd w3 g (u+100)∧w.grownBy w3 (some g)):=⟨(HR2.out.below hb).more (by omega),HG2.out.trans (OE hb (some g))⟩
  clear hb
  go_wp2_with fail
  go_ret
  exact⟨_,rfl,by have h9:(b8 (kd,s)).size≤s.size+5:=HDS.out;omega,HP.out⟩
def TalkLineD(w:World)(e:Ending)(w' :World):Prop:=∃(T:aL) (A:Option Addr) (n c:Nat) (B:Option Addr) (m d:Nat) (s:ByteArray),e= .returned (.tuple #[.agg #[.int .i64 T.things,.int .i64 T.now.known,.slice A n c,.slice B m d],.string s])∧bN w' T A n c B m d∧cD T∧s.size≤110∧Below w.heap.size w w'
set_option linter.unusedSimpArgs false in
theorem drawTalkLine_any(A:Option Addr)(nn c:Nat)(zs:List Int)(w:World)(hn:nn=zs.length)(hc:nn≤c)(hm:c≤maxLen)(hr:∀z∈zs,0≤z∧z≤255)(hA:cB .u8 w A zs):
  Calls Tryz.prog 20 #[.slice A nn c] w (TalkLineD w):=by
 have HX:Hid (aD (w.alloc (.cells #[.int .i64 0,.int .i64 0,.slice none 0 0,.slice none 0 0] 33)) w.heap.size 33 [.int .i64 0,.int .i64 0,.slice none 0 0,.slice none 0 0]):=aD.new w _ [.int .i64 0,.int .i64 0,.slice none 0 0,.slice none 0 0]
 have HB:=zH (oA w (.cells #[.int .i64 0,.int .i64 0,.slice none 0 0,.slice none 0 0] 33))
 have HO:=zH (QU A nn c zs (w.alloc (.cells #[.int .i64 0,.int .i64 0,.slice none 0 0,.slice none 0 0] 33)) hn hc hm hr (hA.alloc _))
 clear hn hc hm hr hA
 go_enter Tryz.func20,Tryz.ntmps20
 go_upto_region 1 with fail
 obtain⟨W1,hW1⟩:∃W,w.alloc (.cells #[.int .i64 0,.int .i64 0,.slice none 0 0,.slice none 0 0] 33)=W:=⟨_,rfl⟩
 rw[hW1] at HO HX HB⊢
 clear hW1
 have hs1:=HX.out.lt
 go_wp2_with fail
 refine HO.out.mono ?_
 rintro e w2 ⟨rfl,hrd,hb⟩
 have HR:=zH hrd
 have HX2:=zH (HX.out.below hb)
 have HB2:=zH (aA HB.out hb)
 have hs2:W1.heap.size≤w2.heap.size:=hb.size
 obtain⟨g,hg⟩:∃g,W1.heap.size=g:=⟨_,rfl⟩
 rw[hg] at HR hs1 hs2⊢
 clear hrd hb HO HX HB hg
 go_wp2_with fail
 refine(PX g 0 12 _ (by omega) (by omega) (by omega) HR.out).mono ?_
 rintro e w3 ⟨T,B1,n1,c1,B2,m1,d1,rfl,hin,hsm,_,hr,hg⟩
 have HX3:=zH (HX2.out.grownO hg (fun j e=>by cases e;omega))
 have HB3:=zH (sN HB2.out hg HB2.out.size (by omega))
 have HR3:=zH hr
 have HT3:=zH hin
 have HSM:=zH hsm
 have hgw:g<w2.heap.size:=HR.out.lt
 have hs3:w2.heap.size≤w3.heap.size:=hg.size
 clear hr hg hin hsm HX2 HB2 HR
 go_upto_region 3 with fail
 have hZ:=aD.new w3 33 [.int .i64 T.things,.int .i64 T.now.known,.slice B1 n1 c1,.slice B2 m1 d1]
 have hbel:=oA w3 (.cells #[.int .i64 T.things,.int .i64 T.now.known,.slice B1 n1 c1,.slice B2 m1 d1] 33)
 have HX4:=zH (HX3.out.below hbel)
 have HB4:=zH (aA HB3.out hbel)
 have HR4:=zH (HR3.out.below hbel)
 have HT4:=zH (HT3.out.below hbel)
 obtain⟨b5,hb5⟩:∃b5,w3.heap.size=b5:=⟨_,rfl⟩
 obtain⟨w4,hw4⟩:∃W,w3.alloc (.cells #[.int .i64 T.things,.int .i64 T.now.known,.slice B1 n1 c1,.slice B2 m1 d1] 33)=W:=⟨_,rfl⟩
 rw[hw4] at hZ HX4 HB4 HR4 HT4⊢
 rw[hb5] at hZ hs3
 try rw[hb5]
 have HLT:Hid (w.heap.size<w2.heap.size∧w.heap.size<b5∧w2.heap.size≤b5∧w.heap.size≤g):=⟨by omega,by omega,by omega,by omega⟩
 have HX:Hid (aD w4.drew w.heap.size 33 [.int .i64 0,.int .i64 0,.slice none 0 0,.slice none 0 0]):=HX4.out.drew
 have HZ:Hid (aD w4.drew b5 33 [.int .i64 T.things,.int .i64 T.now.known,.slice B1 n1 c1,.slice B2 m1 d1]):=aD.drew hZ
 have HB:Hid (Below w.heap.size w w4.drew):=aE HB4.out 1
 have HT:Hid (dL w4.drew w2.heap.size T B1 n1 c1 B2 m1 d1):=HT4.out.below (aE (Below.refl _ _) 1)
 have HR:Hid (Rd w4.drew g 300):=(HR4.out.more (by omega)).drewN 1
 have HLN:Hid (∀X,Rd X g 300→Calls Tryz.prog 59 #[.pointer (some ⟨g,0,none⟩),.agg #[.int .i64 T.things,.int .i64 T.now.known,.slice B1 n1 c1,.slice B2 m1 d1]] X (LineP g 400 X)):=fun X h=>line_any g 300 _ _ _ _ _ _ _ _ X (by omega) h
 clear hw4 hb5 hZ hbel HX3 HB3 HR3 HT3 HX4 HB4 HT4 HR4
 refine wp_region_held_drew (S:=(fun w' =>(w'.cell? ⟨b5,0,none⟩=some (.int .i64 T.things)∧w'.cell? ⟨b5,1,none⟩=some (.int .i64 T.now.known)∧w'.cell? ⟨b5,2,none⟩=some (.slice B1 n1 c1)∧w'.cell? ⟨b5,3,none⟩=some (.slice B2 m1 d1)))) (by kernel_rfl) ?_ (fun hHeld=> ?_)
 ·exact⟨HZ.out.cell rfl,HZ.out.cell rfl,HZ.out.cell rfl,HZ.out.cell rfl⟩
 obtain⟨wd,hwd⟩:∃wd,w4.drew=wd:=⟨_,rfl⟩
 rw[hwd] at HX HZ HB HT HR hHeld⊢
 clear hwd
 refine zT 0 (h:=?_)
 try simp only[Act.put,zS]
 refine zT 1 (h:=?_)
 try simp only[Act.put,zS]
 refine zT 2 (h:=?_)
 try simp only[Act.put,zS]
 refine wpAnyH_ready (rs:=[3]) (by kernel_rfl) (by simp) ?_
 refine AllReadyH.cons rfl (fun K hK=> ?_) AllReadyH.nil
 (go_simp;go_at_call 59;refine(HLN.out _ HR.out).mono ?_;rintro e ws ⟨s,rfl,hs,hr,hg⟩;replace HX:=zH (HX.out.grownO hg (fun j e=>by cases e;have:=HLT.out;omega));replace HZ:=zH (HZ.out.grownO hg (fun j e=>by cases e;have:=HLT.out;have:=HR.out.lt;omega));replace HT:=zH (HT.out.keep (sH hg hgw));replace HB:=zH (sN HB.out hg HB.out.size HLT.out.2.2.2);clear hr hg)
 refine hK.out _ _ ?_ (fun hHeld=> ?_)
 ·exact⟨HZ.out.cell rfl,HZ.out.cell rfl,HZ.out.cell rfl,HZ.out.cell rfl⟩
 clear hK K
 try simp only[Act.put,zS]
 refine wpAnyH_ready (rs:=[4]) (by kernel_rfl) (by simp) ?_
 refine AllReadyH.cons rfl (fun K hK=> ?_) AllReadyH.nil
 (obtain⟨⟨ha0,ha1,ha2,ha3,ha4,ha5,ha6,ha7⟩,⟨hb2,hb3⟩,⟨hb4,hb5⟩,⟨hb6,hb7⟩,HOUT⟩:=HX.out.store4 (.int .i64 T.things) (.int .i64 T.now.known) (.slice B1 n1 c1) (.slice B2 m1 d1);replace HB:=zH (bG HB.out (Nat.le_refl _) (.int .i64 T.things) (.int .i64 T.now.known) (.slice B1 n1 c1) (.slice B2 m1 d1));replace HT:=zH (HT.out.keep (nL HLT.out.1 (.int .i64 T.things) (.int .i64 T.now.known) (.slice B1 n1 c1) (.slice B2 m1 d1)));replace HZ:=zH (HZ.out.other4 (show w.heap.size≠b5 by have:=HLT.out;omega) (.int .i64 T.things) (.int .i64 T.now.known) (.slice B1 n1 c1) (.slice B2 m1 d1));go_simp)
 refine hK.out _ _ ?_ (fun hHeld=> ?_)
 ·exact⟨HZ.out.cell rfl,HZ.out.cell rfl,HZ.out.cell rfl,HZ.out.cell rfl⟩
 clear hK K
 try simp only[Act.put,zS]
 refine wpAnyH_ready (rs:=[5]) (by kernel_rfl) (by simp) ?_
 refine AllReadyH.cons rfl (fun K hK=> ?_) AllReadyH.nil
 go_simp
 refine hK.out _ _ ?_ (fun hHeld=> ?_)
 ·exact⟨HZ.out.cell rfl,HZ.out.cell rfl,HZ.out.cell rfl,HZ.out.cell rfl⟩
 clear hK K
 try simp only[Act.put,zS]
 refine wpAnyH_done (by kernel_rfl) ?_ _
 go_wp2_with fail
 refine bodyPost_ret_by (aU (b:=w.heap.size) rfl rfl (by rfl) HOUT) rfl ⟨T,_,_,_,_,_,_,s,(by rfl),HT.out.at_,HSM.out,hs,HB.out⟩
end Go.Proofs.YtfhjcacfchkdpaaGreatDoor
