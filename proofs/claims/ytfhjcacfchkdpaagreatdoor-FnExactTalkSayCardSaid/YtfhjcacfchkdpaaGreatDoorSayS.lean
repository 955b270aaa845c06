/-
  Chapter 9, by the door: the model's TalkSay.
-/
import Derived.Test.YtfhjcacfchkdpaaGreatDoorSayA
import Derived.Deep.Cut
import Derived.Deep.CutRange
import Derived.Deep.CutBlock
import Derived.Test.YtfhjcacfchkdpaaGreatDoorU40
set_option maxRecDepth 100000
set_option maxHeartbeats 32000000
namespace Go.Proofs.YtfhjcacfchkdpaaGreatDoor
open Go.RowKit
def SaysIn(X:aL)(L:List ByteArray)(w:World)(e:Ending)(w' :World):Prop:=∃A n c B m d v,e= .returned (.tuple #[.agg #[.int .i64 X.things,.int .i64 X.now.known,.slice A n c,.slice B m d],v])∧dL w' w.heap.size X A n c B m d∧aK w' w.heap.size v L∧Below w.heap.size w w'
theorem sTalkLine_q{T X:aL}{A B:Option Addr}{n c m d:Nat}{s:ByteArray}{a:List UInt8}{w:World}(h:Hid (kS T s=(X,a)))(hok:dP T=true)(hT:bN w T A n c B m d)(hx:s.size≤1048576):
  Calls Tryz.prog 21 #[.agg #[.int .i64 T.things,.int .i64 T.now.known,.slice A n c,.slice B m d],.string s] w (C0 X a w):=by
 have:=ON T A B n c m d s w hT (lQ hok) hx
 rw[uE hok,h.out] at this;exact this
def AnsL(lo h:Nat)(v:Value)(k:Nat):Prop:=k<lo∨k=h∨v.ownBlock=some k
theorem said_in{h lo lo0:Nat}{v v' :Value}{wX w9 w' :World}{o:Obj}{X:aL}{A B:Option Addr}{n c m d:Nat}{p q r s:Value}(hh:h<lo)(h0:lo0≤lo)(hv:∀k,v.ownBlock=some k→k<lo)
  (hi:dL wX lo X A n c B m d) (hb9:Below wX.heap.size wX w9) (hg:((set4 w9 h p q r s).alloc o).grownBy w' v.ownBlock)
  (hv' :∀k,v'.ownBlock=some k→v.ownBlock=some k∨wX.heap.size≤k):∀W,ExcP (AnsL lo0 h v') w' W→bN W X A n c B m d:=by
 intro W hW
 have hE:fI h w9 (set4 w9 h p q r s):=fI.set4 h w9 p q r s
 have h89:=hb9.size
 have hsz:w9.heap.size≤((set4 w9 h p q r s).alloc o).heap.size:=by rw[World.size_alloc];have:=hE.1;omega
 refine hi W ⟨Nat.le_trans h89 (Nat.le_trans hsz (Nat.le_trans hg.size hW.1)),fun k h1 h2=> ?_⟩
 have a1:w'.heap[k]? =((set4 w9 h p q r s).alloc o).heap[k]? :=hg.block k (by omega) (fun e=>by have:=hv k e.symm;omega)
 have a2:((set4 w9 h p q r s).alloc o).heap[k]? =(set4 w9 h p q r s).heap[k]? :=Below.heap_alloc _ o k (by have:=hE.1;omega)
 have a3:=hE.2 k (by omega) (by omega)
 refine(hW.2 k (by have:=hg.size;omega) ?_).trans (a1.trans (a2.trans (a3.trans (hb9.block k h2))))
 rintro(e|e|e)
 ·omega
 ·omega
 ·rcases hv' k e with e2|e2
  ·have:=hv k e2;omega
  ·omega
theorem in_new{h lo lo0:Nat}{wX w9:World}{X:aL}{A B:Option Addr}{n c m d:Nat}{v:Value}(hh:wX.heap.size≤h)(h0:lo0≤lo)(hv:∀k,v.ownBlock=some k→k<lo)(hi:dL wX lo X A n c B m d)(hb9:Below wX.heap.size wX w9):
  ∀W,ExcP (AnsL lo0 h v) w9 W→bN W X A n c B m d:=fun W hW=>hi W ⟨Nat.le_trans hb9.size hW.1,fun k h1 h2=>(hW.2 k (Nat.lt_of_lt_of_le h2 hb9.size) (by
  rintro(e|e|e)
  ·omega
  ·omega
  ·have:=hv k e;omega)).trans (hb9.block k h2)⟩
theorem in_retP{b h lo0:Nat}{v:Value}{w w' :World}{X:aL}{A B:Option Addr}{n c m d:Nat}(hat:∀W,ExcP (AnsL lo0 h v) w W→bN W X A n c B m d)(hl:b≤lo0)(hk:aX lo0 w w'):dL w' b X A n c B m d:=fun W hW=>hat W ⟨Nat.le_trans hk.1 hW.1,fun k a1 a2=>by
 have h1:lo0≤k:=Nat.le_of_not_lt fun h=>a2 (.inl h)
 exact(hW.2 k (by omega) (Nat.lt_of_lt_of_le a1 hk.1)).trans (hk.2 k h1 a1)⟩
set_option linter.unusedSimpArgs false in
theorem sTalkSay(T:aL)(A B L:Option Addr)(n c m d ln lc:Nat)(ls:List ByteArray)(w:World)(hT:bN w T A n c B m d)(hs:cD T)(hn:ln=ls.length)(hll:ln≤1048576)(hL:a7 w L ls)(hls:∀x∈ls,x.size≤1048576):
  Calls Tryz.prog 26 #[.agg #[.int .i64 T.things,.int .i64 T.now.known,.slice A n c,.slice B m d],.slice L ln lc] w (SaysIn (sayTo T ls).1 (sayTo T ls).2 w):=by
 subst hn
 obtain⟨HX,HR,HB⟩:=vM w (.int .i64 T.things) (.int .i64 T.now.known) (.slice A n c) (.slice B m d)
 have HT:=zH (hT.below HB.out)
 have HL:=zH (hL.below HB.out)
 have HS:=zH hs
 have HLS:=zH hls
 have HLB:Hid (0<ls.length→∀ad,L=some ad→ad.block<w.heap.size):=fun hn ad e=>by
  obtain⟨b,off,e2,hlt,_⟩:=hL hn
  rw[e] at e2
  cases e2
  exact hlt
 obtain⟨z,hz⟩:∃z,dP T=z:=⟨_,rfl⟩
 have HZ:=zH hz
 clear hT hs hL hls hz
 obtain⟨P,hP⟩:∃P,sayTo T ls=P:=⟨_,rfl⟩
 have HP:=zH hP
 rw[hP]
 clear hP
 go_enter Tryz.func26,Tryz.ntmps26
 go_upto_region 1 with fail
 obtain⟨W0,hW0⟩:∃W,(w.alloc (.cells #[.int .i64 T.things,.int .i64 T.now.known,.slice A n c,.slice B m d] 33)).alloc (.cells #[.int .i64 0,.int .i64 0,.slice none 0 0,.slice none 0 0] 33)=W:=⟨_,rfl⟩
 rw[hW0] at HX HR HB HT HL⊢
 clear hW0
 have hs0:w.heap.size+1<W0.heap.size:=HR.out.lt
 go_upto_region 2 with fail
 have hOA:aK (W0.alloc (.cells #[] 9)) W0.heap.size (.slice (some ⟨W0.heap.size,0,none⟩) 0 0) []:=aK.lit W0 W0.heap.size [] (Nat.le_refl _) (by simp[maxLen])
 have hbel:=oA W0 (.cells #[] 9)
 have HXa:=zH (HX.out.below hbel)
 have HRa:=zH (HR.out.below hbel)
 have HBa:=zH (aA HB.out hbel)
 have HTa:=zH (HT.out.below hbel)
 have HLa:=zH (HL.out.below hbel)
 obtain⟨ha,hha⟩:∃h,W0.heap.size=h:=⟨_,rfl⟩
 obtain⟨Wa,hWa⟩:∃W,W0.alloc (.cells #[] 9)=W:=⟨_,rfl⟩
 rw[hWa,hha] at hOA
 rw[hWa] at HXa HRa HBa HTa HLa⊢
 rw[hha] at hs0⊢
 have HOA:=zH hOA
 clear hWa hha hOA hbel HX HR HB HT HL
 have hc0:=HXa.out.cell (i:=0) (v:= .int .i64 T.things) rfl
 have hc1:=HXa.out.cell (i:=1) (v:= .int .i64 T.now.known) rfl
 have hc2:=HXa.out.cell (i:=2) (v:= .slice A n c) rfl
 have hc3:=HXa.out.cell (i:=3) (v:= .slice B m d) rfl
 have HOK:=zH (q7 T A B n c m d Wa HTa.out HS.out)
 rw[HZ.out] at HOK
 go_wp2_with fail
 refine HOK.out.mono ?_
 rintro e w1 ⟨rfl,hb⟩
 have HX1:=zH (HXa.out.below hb)
 have HR1:=zH (HRa.out.below hb)
 have HB1:=zH (aA HBa.out hb)
 have HT1:=zH (HTa.out.below hb)
 have HL1:=zH (HLa.out.below hb)
 have HO1:=zH (HOA.out.below hb)
 clear hb hc0 hc1 hc2 hc3 HXa HRa HBa HTa HLa HOA HOK
 have HBAD:Hid (∀w1,Below w.heap.size w w1→Hid (Below w.heap.size w ((((w1.setCell ⟨w.heap.size+1,0,none⟩ (.int .i64 0)).setCell ⟨w.heap.size+1,1,none⟩ (.int .i64 0)).setCell ⟨w.heap.size+1,2,none⟩ (.slice none 0 0)).setCell ⟨w.heap.size+1,3,none⟩ (.slice none 0 0)))):=fun w1 h=>bG h (show w.heap.size≤w.heap.size+1 by omega) _ _ _ _
 have HNIL:Hid (∀W,dL W w.heap.size lW none 0 0 none 0 0):=fun W W' _=>⟨rfl,Nat.le_refl _,Nat.zero_le _,a7.nil _ _,rfl,Nat.le_refl _,Nat.zero_le _,b6.nil _ _⟩
 have HON:=zH ((HO1.out.setBox4 HR1.out (by decide) (.int .i64 0) (.int .i64 0) (.slice none 0 0) (.slice none 0 0)).base (show w.heap.size≤ha by omega))
 cases z with
 |false=>
  have HPE:Hid (P=(lW,[])):=HP.out.symm.trans (say_bad fun h=>by have:=HZ.out;rw[h.1] at this;cases this)
  obtain⟨⟨ha0,ha1,ha2,ha3,ha4,ha5,ha6,ha7⟩,⟨hb2,hb3⟩,⟨hb4,hb5⟩,⟨hb6,hb7⟩,HOUT⟩:=HR1.out.store4 (.int .i64 0) (.int .i64 0) (.slice none 0 0) (.slice none 0 0)
  have HBE:=HBAD.out w1 HB1.out
  go_wp2_with fail
  refine bodyPost_ret_by (aU (b:=w.heap.size+1) rfl rfl rfl HOUT) rfl ?_
  show SaysIn P.1 P.2 w _ _
  rw[HPE.out]
  exact⟨none,0,0,none,0,0,_,rfl,HNIL.out _,HON.out,HBE.out⟩
 |true=>
  by_cases hl:40<ls.length
  ·have hd:decide ((40:Int)<(ls.length:Int))=true:=decide_eq_true (by omega)
   have HPE:Hid (P=(lW,[])):=HP.out.symm.trans (say_bad fun h=>by have:=h.2;omega)
   obtain⟨⟨ha0,ha1,ha2,ha3,ha4,ha5,ha6,ha7⟩,⟨hb2,hb3⟩,⟨hb4,hb5⟩,⟨hb6,hb7⟩,HOUT⟩:=HR1.out.store4 (.int .i64 0) (.int .i64 0) (.slice none 0 0) (.slice none 0 0)
   have HBE:=HBAD.out w1 HB1.out
   clear hl
   go_wp2_with fail
   refine bodyPost_ret_by (aU (b:=w.heap.size+1) rfl rfl rfl HOUT) rfl ?_
   show SaysIn P.1 P.2 w _ _
   rw[HPE.out]
   exact⟨none,0,0,none,0,0,_,rfl,HNIL.out _,HON.out,HBE.out⟩
  have hd:decide ((40:Int)<(ls.length:Int))=false:=decide_eq_false (by omega)
  have hl40:ls.length≤40:=by omega
  have HE:Hid (sayTo T ls=saidT T ls ls.length):=(said_all HZ.out hl40).symm
  clear hl HBAD HNIL HON
  have hc0:=HX1.out.cell (i:=0) (v:= .int .i64 T.things) rfl
  have hc1:=HX1.out.cell (i:=1) (v:= .int .i64 T.now.known) rfl
  have hc2:=HX1.out.cell (i:=2) (v:= .slice A n c) rfl
  have hc3:=HX1.out.cell (i:=3) (v:= .slice B m d) rfl
  have hr1lt:ha<w1.heap.size:=by
   have:=(World.ownsRow.lt HO1.out ha rfl).2
   exact this
  go_wp2_with fail
  refine(V2 T A B n c m d w1 HT1.out HS.out).mono ?_
  rintro e w2 ⟨o,p,vs,rfl,ho,hp,hb⟩
  obtain⟨A2,c2,B2,d2,rfl,rfl,hin⟩:=qO ho hp
  have HIN:=zH hin
  have HR2:=zH (HR1.out.below hb)
  have HB2:=zH (aA HB1.out hb)
  have HL2:=zH (HL1.out.below hb)
  have HO2:=zH (HO1.out.below hb)
  have hs12:w1.heap.size≤w2.heap.size:=hb.size
  clear hb hc0 hc1 hc2 hc3 HX1 HR1 HB1 HT1 HL1 HO1 ho hp hin
  go_upto_region 5 with fail
  have hG:=aD.new w2 33 [.int .i64 T.things,.int .i64 T.now.known,.slice A2 T.now.op.length c2,.slice B2 T.past.length d2]
  have hbel:=oA w2 (.cells #[.int .i64 T.things,.int .i64 T.now.known,.slice A2 T.now.op.length c2,.slice B2 T.past.length d2] 33)
  have HR3:=zH (HR2.out.below hbel)
  have HB3:=zH (aA HB2.out hbel)
  have HL3:=zH (HL2.out.below hbel)
  have HO3:=zH ((HO2.out.below hbel).base (show w.heap.size≤ha by omega))
  have HAT3:=zH (in_new (v:= .slice (some ⟨ha,0,none⟩) 0 0) (lo0:=w.heap.size+2) (Nat.le_refl w2.heap.size) (by omega) (fun k hk=>by cases hk;exact hr1lt) HIN.out hbel)
  have hh6:w.heap.size+1<w2.heap.size:=by omega
  obtain⟨h6,he6⟩:∃h6,w2.heap.size=h6:=⟨_,rfl⟩
  obtain⟨W3,hW3⟩:∃W,w2.alloc (.cells #[.int .i64 T.things,.int .i64 T.now.known,.slice A2 T.now.op.length c2,.slice B2 T.past.length d2] 33)=W:=⟨_,rfl⟩
  rw[hW3] at hG HR3 HB3 HL3 HO3 HAT3
  rw[he6] at hG HAT3 hh6
  rw[hW3]
  try rw[he6]
  have HG:=zH hG
  clear hW3 he6 hG hbel HR2 HB2 HL2 HO2 hd HIN hr1lt hs12
  have HN0:Hid (saidT T ls 0=(T,[])):=said_zero T ls
  go_wp2_with fail
  go_loopw [6,8] (fun v i wr=>∃(k:Nat) (X:aL) (an:List ByteArray) (A:Option Addr) (n c:Nat) (B:Option Addr) (m d:Nat),k≤ls.length∧i= .int .i64 k∧Hid (saidT T ls k=(X,an))∧Hid (aD wr h6 33 [.int .i64 X.things,.int .i64 X.now.known,.slice A n c,.slice B m d])∧Hid (∀W,ExcP (AnsL (w.heap.size+2) h6 v) wr W→bN W X A n c B m d)∧Hid (Below w.heap.size w wr)∧Hid (aD wr (w.heap.size+1) 33 [.int .i64 0,.int .i64 0,.slice none 0 0,.slice none 0 0])∧Hid (a7 wr L ls)∧Hid (aK wr w.heap.size v an)) (fun _ i _=>ls.length-(Go.RowKit.intOf i).toNat)
  case atStart=>exact⟨0,T,[],A2,T.now.op.length,c2,B2,T.past.length,d2,Nat.zero_le _,rfl,HN0,HG,HAT3,HB3,HR3,HL3,HO3⟩
  case round=>
   obtain⟨k,X,an,A,n,c,B,m,d,hk,rfl,HRUN,HG,HAT,HB0,HR,HL,HO⟩:=hrel
   obtain⟨v6,hv6⟩:∃v,u6=v:=⟨_,rfl⟩
   rw[hv6] at HAT HO⊢
   clear hv6
   have HXO:Hid (dP X=true∧an.length=k):=said_ok HRUN.out HZ.out hk
   by_cases hlt:k<ls.length
   ·obtain⟨b,off,x,rfl,he0,hx,hbl⟩:=HL.out.elem hlt
    have HSZ:=zH (HLS.out _ (mT hx))
    have HNX:=zH (said_next hx HRUN.out)
    obtain⟨Q,hQ⟩:∃Q,kS X x=Q:=⟨_,rfl⟩
    rw[hQ] at HNX
    obtain⟨Y,a⟩:=Q
    have HD:=zH hQ
    dsimp only at HNX
    clear hQ
    have HGL6:Hid (h6<wr.heap.size):=HG.out.lt
    have HVL:Hid (∀k,v6.ownBlock=some k→k<wr.heap.size):=fun k hk=>(World.ownsRow.lt HO.out k hk).2
    have HQ8:Hid (∀W,Below wr.heap.size wr W→(W.cell? ⟨h6,0,none⟩=some (.int .i64 X.things)∧W.cell? ⟨h6,1,none⟩=some (.int .i64 X.now.known)∧W.cell? ⟨h6,2,none⟩=some (.slice A n c)∧W.cell? ⟨h6,3,none⟩=some (.slice B m d))∧W.cell? ⟨b,off+k,none⟩=some (.string x)):=fun W hb=>⟨⟨(HG.out.below hb).cell rfl,(HG.out.below hb).cell rfl,(HG.out.below hb).cell rfl,(HG.out.below hb).cell rfl⟩,(Below.cell hb (p:=⟨b,off+k,none⟩) hbl.out).trans he0⟩
    go_upto_region 8 with fail
    obtain⟨⟨hc0,hc1,hc2,hc3⟩,hc4⟩:=HQ8.out wr (Below.refl _ _)
    go_cut [9,10] from 30 to 38 (fun s9 s10 wx=>∃h A' n' c' B' m' d' lo,s9= .pointer (some ⟨h,0,none⟩)∧s10= .string (cJ a)∧aD wx h 33 [.int .i64 Y.things,.int .i64 Y.now.known,.slice A' n' c',.slice B' m' d']∧dL wx lo Y A' n' c' B' m' d'∧wr.heap.size≤lo∧Below wr.heap.size wr wx)
    case first=>
     have HB:Hid (Below wr.heap.size wr wr.drew):=aE (Below.refl _ _) 1
     refine wp_region_held_drew (S:=(fun w' =>(w'.cell? ⟨h6,0,none⟩=some (.int .i64 X.things)∧w'.cell? ⟨h6,1,none⟩=some (.int .i64 X.now.known)∧w'.cell? ⟨h6,2,none⟩=some (.slice A n c)∧w'.cell? ⟨h6,3,none⟩=some (.slice B m d))∧w'.cell? ⟨b,off+k,none⟩=some (.string x))) (by kernel_rfl) ?_ (fun hHeld=> ?_)
     ·exact HQ8.out _ HB.out
     obtain⟨wd,hwd⟩:∃wd,wr.drew=wd:=⟨_,rfl⟩
     rw[hwd] at HB hHeld⊢
     clear hwd
     refine zT 0 (h:=?_)
     try simp only[Act.put,zS]
     refine zT 1 (h:=?_)
     try simp only[Act.put,zS]
     refine zT 2 (h:=?_)
     try simp only[Act.put,zS]
     refine zT 3 (h:=?_)
     try simp only[Act.put,zS]
     refine zT 4 (h:=?_)
     try simp only[Act.put,zS]
     refine wpAnyH_ready (rs:=[5,9]) (by kernel_rfl) (by simp) ?_
     refine AllReadyH.cons rfl (fun K hK=> ?_) ?_
     ·(go_simp;go_at_call 21;(try have hzl:=HZV.out.lt);have HLO:=zH HB.out.size;refine(sTalkLine_q HD HXO.out.1 (HAT.out _ (ExcP.of_below HB.out)) HSZ.out).mono ?_;rintro e wT ⟨A',n',c',B',m',d',rfl,hown,hb⟩;replace HB:=zH (aA HB.out hb);(try replace HZV:=zH (HZV.out.below hb));(try have HXK:=zH (fun a b r q=>hown.keep (jF hzl a b r q)));have HI:=zH hown;clear hb hown)
      refine hK.out _ _ ?_ (fun hHeld=> ?_)
      ·exact HQ8.out _ HB.out
      clear hK K
      try simp only[Act.put,zS]
      refine zT 6 (h:=?_)
      try simp only[Act.put,zS]
      refine zT 7 (h:=?_)
      try simp only[Act.put,zS]
      refine zT 8 (h:=?_)
      try simp only[Act.put,zS]
      refine wpAnyH_ready (rs:=[9]) (by kernel_rfl) (by simp) ?_
      refine AllReadyH.cons rfl (fun K hK=> ?_) AllReadyH.nil
      (go_simp;obtain⟨wz,hwz,HZV,HGL,HBn,HBl⟩:=al_genP HB.out HB.out.size;rw[hwz];(try have HXK:=zH (fun a b r q=>HI.out.below (bG HBl.out (Nat.le_refl _) a b r q)));replace HB:=HBn;clear hwz HBl)
      refine hK.out _ _ ?_ (fun hHeld=> ?_)
      ·exact HQ8.out _ HB.out
      clear hK K
      try simp only[Act.put,zS]
      refine wpAnyH_ready (rs:=[10]) (by kernel_rfl) (by simp) ?_
      refine AllReadyH.cons rfl (fun K hK=> ?_) AllReadyH.nil
      (obtain⟨⟨ha0,ha1,ha2,ha3,ha4,ha5,ha6,ha7⟩,⟨hb2,hb3⟩,⟨hb4,hb5⟩,⟨hb6,hb7⟩,HOUT⟩:=HZV.out.store4 (.int .i64 Y.things) (.int .i64 Y.now.known) (.slice A' n' c') (.slice B' m' d');have HIF:=zH (HXK.out (.int .i64 Y.things) (.int .i64 Y.now.known) (.slice A' n' c') (.slice B' m' d'));replace HB:=zH (bG HB.out HGL.out (.int .i64 Y.things) (.int .i64 Y.now.known) (.slice A' n' c') (.slice B' m' d'));go_simp)
      refine hK.out _ _ ?_ (fun hHeld=> ?_)
      ·exact HQ8.out _ HB.out
      clear hK K
      try simp only[Act.put,zS]
      refine wpAnyH_ready (rs:=[11]) (by kernel_rfl) (by simp) ?_
      refine AllReadyH.cons rfl (fun K hK=> ?_) AllReadyH.nil
      go_simp
      refine hK.out _ _ ?_ (fun hHeld=> ?_)
      ·exact HQ8.out _ HB.out
      clear hK K
      try simp only[Act.put,zS]
      refine wpAnyH_done (by kernel_rfl) ?_ _
      go_wp2_with fail
      go_meet
      exact⟨_,A',n',c',B',m',d',_,rfl,rfl,HOUT.out,HIF.out,HLO.out,HB.out⟩
     refine AllReadyH.cons rfl (fun K hK=> ?_) ?_
     ·(go_simp;obtain⟨wz,hwz,HZV,HGL,HBn,HBl⟩:=al_genP HB.out HB.out.size;rw[hwz];(try have HXK:=zH (fun a b r q=>HI.out.below (bG HBl.out (Nat.le_refl _) a b r q)));replace HB:=HBn;clear hwz HBl)
      refine hK.out _ _ ?_ (fun hHeld=> ?_)
      ·exact HQ8.out _ HB.out
      clear hK K
      try simp only[Act.put,zS]
      refine wpAnyH_ready (rs:=[5]) (by kernel_rfl) (by simp) ?_
      refine AllReadyH.cons rfl (fun K hK=> ?_) AllReadyH.nil
      (go_simp;go_at_call 21;(try have hzl:=HZV.out.lt);have HLO:=zH HB.out.size;refine(sTalkLine_q HD HXO.out.1 (HAT.out _ (ExcP.of_below HB.out)) HSZ.out).mono ?_;rintro e wT ⟨A',n',c',B',m',d',rfl,hown,hb⟩;replace HB:=zH (aA HB.out hb);(try replace HZV:=zH (HZV.out.below hb));(try have HXK:=zH (fun a b r q=>hown.keep (jF hzl a b r q)));have HI:=zH hown;clear hb hown)
      refine hK.out _ _ ?_ (fun hHeld=> ?_)
      ·exact HQ8.out _ HB.out
      clear hK K
      try simp only[Act.put,zS]
      refine zT 6 (h:=?_)
      try simp only[Act.put,zS]
      refine zT 7 (h:=?_)
      try simp only[Act.put,zS]
      refine zT 8 (h:=?_)
      try simp only[Act.put,zS]
      refine wpAnyH_ready (rs:=[10]) (by kernel_rfl) (by simp) ?_
      refine AllReadyH.cons rfl (fun K hK=> ?_) AllReadyH.nil
      (obtain⟨⟨ha0,ha1,ha2,ha3,ha4,ha5,ha6,ha7⟩,⟨hb2,hb3⟩,⟨hb4,hb5⟩,⟨hb6,hb7⟩,HOUT⟩:=HZV.out.store4 (.int .i64 Y.things) (.int .i64 Y.now.known) (.slice A' n' c') (.slice B' m' d');have HIF:=zH (HXK.out (.int .i64 Y.things) (.int .i64 Y.now.known) (.slice A' n' c') (.slice B' m' d'));replace HB:=zH (bG HB.out HGL.out (.int .i64 Y.things) (.int .i64 Y.now.known) (.slice A' n' c') (.slice B' m' d'));go_simp)
      refine hK.out _ _ ?_ (fun hHeld=> ?_)
      ·exact HQ8.out _ HB.out
      clear hK K
      try simp only[Act.put,zS]
      refine wpAnyH_ready (rs:=[11]) (by kernel_rfl) (by simp) ?_
      refine AllReadyH.cons rfl (fun K hK=> ?_) AllReadyH.nil
      go_simp
      refine hK.out _ _ ?_ (fun hHeld=> ?_)
      ·exact HQ8.out _ HB.out
      clear hK K
      try simp only[Act.put,zS]
      refine wpAnyH_done (by kernel_rfl) ?_ _
      go_wp2_with fail
      go_meet
      exact⟨_,A',n',c',B',m',d',_,rfl,rfl,HOUT.out,HIF.out,HLO.out,HB.out⟩
     exact AllReadyH.nil
    case rest=>
     obtain⟨h9,A',n',c',B',m',d',lo,rfl,rfl,hbx,hin,hlo,hbw⟩:=hcut
     obtain⟨W6,rfl⟩:∃W,W=wc:=⟨_,rfl⟩
     have HE9:=zH hbx
     have HIN:=zH hin
     have HLO:=zH hlo
     have HG6:=zH (HG.out.below hbw)
     have HB6:=zH (aA HB0.out hbw)
     have HR6:=zH (HR.out.below hbw)
     have HL6:=zH (HL.out.below hbw)
     have HO6:=zH (HO.out.below hbw)
     have HL2:Hid (w.heap.size+2≤lo∧h6<lo):=by
      have a1:=HR.out.lt
      have a2:=HGL6.out
      exact⟨by omega,by omega⟩
     clear hbx hin hlo hbw hc0 hc1 hc2 hc3 hc4 HQ8 HG HAT HB0 HR HL HO he0
     have hz0:=HE9.out.cell (i:=0) (v:= .int .i64 Y.things) rfl
     have hz1:=HE9.out.cell (i:=1) (v:= .int .i64 Y.now.known) rfl
     have hz2:=HE9.out.cell (i:=2) (v:= .slice A' n' c') rfl
     have hz3:=HE9.out.cell (i:=3) (v:= .slice B' m' d') rfl
     obtain⟨⟨ha0,ha1,ha2,ha3,ha4,ha5,ha6,ha7⟩,⟨hb2,hb3⟩,⟨hb4,hb5⟩,⟨hb6,hb7⟩,HG7⟩:=HG6.out.store4 (.int .i64 Y.things) (.int .i64 Y.now.known) (.slice A' n' c') (.slice B' m' d')
     have HB7:=zH (bG HB6.out (show w.heap.size≤h6 by omega) (.int .i64 Y.things) (.int .i64 Y.now.known) (.slice A' n' c') (.slice B' m' d'))
     have HR7:=zH (HR6.out.other4 (g:=h6) (by omega) (.int .i64 Y.things) (.int .i64 Y.now.known) (.slice A' n' c') (.slice B' m' d'))
     have HL7:=zH (strs_exc HL6.out (fI.set4 h6 W6 (.int .i64 Y.things) (.int .i64 Y.now.known) (.slice A' n' c') (.slice B' m' d')) (fun hn ad e=>by have:=HLB.out hn ad e;omega))
     have HO7:=zH (HO6.out.setBox4 HG6.out (by decide) (.int .i64 Y.things) (.int .i64 Y.now.known) (.slice A' n' c') (.slice B' m' d'))
     have hsz7:W6.heap.size≤(set4 W6 h6 (.int .i64 Y.things) (.int .i64 Y.now.known) (.slice A' n' c') (.slice B' m' d')).heap.size:=(fI.set4 h6 W6 (.int .i64 Y.things) (.int .i64 Y.now.known) (.slice A' n' c') (.slice B' m' d')).1
     have HATN:=zH (fun v' w' o hg hv' =>said_in (v' :=v') (w' :=w') (o:=o) (p:= .int .i64 Y.things) (q:= .int .i64 Y.now.known) (r:= .slice A' n' c') (s:= .slice B' m' d') HL2.out.2 HL2.out.1 (fun k hk=>Nat.lt_of_lt_of_le (HVL.out k hk) HLO.out) HIN.out (Below.refl _ _) hg hv')
     go_upto_region 10 with fail
     obtain⟨W7,hW7⟩:∃W,set4 W6 h6 (.int .i64 Y.things) (.int .i64 Y.now.known) (.slice A' n' c') (.slice B' m' d')=W:=⟨_,rfl⟩
     rw[hW7] at HATN hsz7
     unfold set4 at hW7
     rw[hW7] at HG7 HB7 HR7 HL7 HO7
     rw[hW7]
     clear hW7 hz0 hz1 hz2 hz3 ha0 ha1 ha2 ha3 ha4 ha5 ha6 ha7 hb2 hb3 hb4 hb5 hb6 hb7 HG6 HB6 HR6 HL6 HO6 HE9 HIN
     have HNO:Hid (an.length≤1048576):=by have:=HXO.out.2;unfold Hid;omega
     go_upto_region 7 with(at_builtin;refine wpL_appV (W:=W7) rfl _ _ rfl w.heap.size v6 an rfl HO7.out (cJ a) rfl HNO.out HB7.out.size ?_;intro v' w8 ho hg hv')
     have HG8:=zH ((HG7.out.alloc (.cells #[.string (cJ a)] 9)).grownO hg (iP HG7.out HO7.out (by decide)))
     have HR8:=zH ((HR7.out.alloc (.cells #[.string (cJ a)] 9)).grownO hg (iP HR7.out HO7.out (by decide)))
     have HB8:=zH (EC HB7.out HB7.out.size HO7.out (Nat.le_refl _) hg)
     have HL8:=zH (strs_ownP (HL7.out.alloc (.cells #[.string (cJ a)] 9)) hg (fun k hk=>(World.ownsRow.lt HO7.out k hk).1) HLB.out)
     have HAT8:=zH (HATN.out v' w8 _ hg (fun k hk=>(hv' k hk).imp id fun h=>by omega))
     have HO8:=zH ho
     clear ho hg hv'
     go_wp2_with fail
     go_roundw
     case rel=>exact⟨k+1,Y,an++[cJ a],A',n',c',B',m',d',by omega,by go_num,HNX,HG8,HAT8,HB8,HR8,HL8,HO8⟩
     case measure=>simp[Go.RowKit.intOf];omega
   ·obtain rfl:k=ls.length:=by omega
    have HPE:Hid (P=(X,an)):=HP.out.symm.trans (HE.out.trans HRUN.out)
    have hg0:=HG.out.cell (i:=0) (v:= .int .i64 X.things) rfl
    have hg1:=HG.out.cell (i:=1) (v:= .int .i64 X.now.known) rfl
    have hg2:=HG.out.cell (i:=2) (v:= .slice A n c) rfl
    have hg3:=HG.out.cell (i:=3) (v:= .slice B m d) rfl
    obtain⟨⟨ha0,ha1,ha2,ha3,ha4,ha5,ha6,ha7⟩,⟨hb2,hb3⟩,⟨hb4,hb5⟩,⟨hb6,hb7⟩,HOUT⟩:=HR.out.store4 (.int .i64 X.things) (.int .i64 X.now.known) (.slice A n c) (.slice B m d)
    have HFO:=zH (And.intro (in_retP (b:=w.heap.size) HAT.out (by omega) (jF (b:=w.heap.size+1) (lo:=w.heap.size+2) (w:=wr) (by omega) (.int .i64 X.things) (.int .i64 X.now.known) (.slice A n c) (.slice B m d))) (And.intro (HO.out.setBox4 HR.out (by decide) (.int .i64 X.things) (.int .i64 X.now.known) (.slice A n c) (.slice B m d)) (bG HB0.out (show w.heap.size≤w.heap.size+1 by omega) (.int .i64 X.things) (.int .i64 X.now.known) (.slice A n c) (.slice B m d))))
    go_wp2_with fail
    refine bodyPost_ret_by (aU (b:=w.heap.size+1) rfl rfl rfl HOUT) rfl ?_
    show SaysIn P.1 P.2 w _ _
    rw[HPE.out]
    exact⟨_,_,_,_,_,_,_,rfl,HFO.out⟩
end Go.Proofs.YtfhjcacfchkdpaaGreatDoor
