/-
  Chapter 9, by the door: what is drawn of a talk and lines.
-/
import Derived.Test.YtfhjcacfchkdpaaGreatDoorLineD
import Derived.Test.YtfhjcacfchkdpaaGreatDoorSayA
import Derived.Test.YtfhjcacfchkdpaaGreatDoorU17
set_option maxRecDepth 100000
set_option maxHeartbeats 32000000
namespace Go.Proofs.YtfhjcacfchkdpaaGreatDoor
open Go.RowKit
def uM(xs:List ByteArray)(k:Nat):Nat→Value:=fun j=>if j<k then .string (xs.getD j ByteArray.empty) else .string ByteArray.empty
def TalkSayD(w:World)(e:Ending)(w' :World):Prop:=∃(T:aL) (A:Option Addr) (n c:Nat) (B:Option Addr) (m d:Nat) (L:Option Addr) (lc:Nat) (ls:List ByteArray),e= .returned (.tuple #[.agg #[.int .i64 T.things,.int .i64 T.now.known,.slice A n c,.slice B m d],.slice L ls.length lc])∧bN w' T A n c B m d∧cD T∧ls.length≤lc∧lc≤9223372036854775807∧ls.length≤1048576∧a7 w' L ls∧((L=none∧ls.length=0∧lc=0)∨∃b,L=some ⟨b,0,none⟩)∧(∀s∈ls,s.size≤110)∧Below w.heap.size w w'
def lines41:List ByteArray:=List.replicate 41 ByteArray.empty
theorem strs_made{w:World}{g:Nat}(h:w.rowIs g 9 41 (uM lines41 0))(hlt:g<w.heap.size):a7 w (some ⟨g,0,none⟩) lines41:=fun _=>by
 refine⟨g,0,rfl,hlt,fun i hi=> ?_⟩
 have hi2:i<41:=by simpa [lines41] using hi
 have:=h.cell hi2
 unfold uM at this
 rw[if_neg (by omega)] at this
 have e:lines41.getD i ByteArray.empty=ByteArray.empty:=by
  unfold lines41
  rw[List.getD_eq_getElem?_getD,List.getElem?_replicate]
  split<;>rfl
 rw[Nat.zero_add,this,e]
def made41S:Obj:= .cells (madeCells #[Value.string ByteArray.empty] 41) 9
theorem run_make41S(W:World):(Instr.makeSlice 28 (.int .i64 41) (.int .i64 41)).run Tryz.prog W= .ok (.slice (some ⟨W.heap.size,0,none⟩) 41 41) (W.alloc made41S):=run_make_row' (P:=Tryz.prog) 28 9 (.string ByteArray.empty) 16 Tryz.underlying28 uN rfl .i64 .i64 41 (by omega) (by omega) W
theorem owns_grownS{w w' :World}{base g:Nat}{v:Value}{xs:List ByteArray}(h:aK w base v xs)(hg:w.grownBy w' (some g))(hb:g<base):aK w' base v xs:=by
 refine h.kept hg ?_
 cases e:v.ownBlock with
 |none=>exact .inl rfl
 |some k=>
  right
  intro e2
  have:=(World.ownsRow.lt h k e).1
  cases e2
  omega
theorem owns_shapeS{w:World}{lo n c:Nat}{L:Option Addr}{xs:List ByteArray}(h:aK w lo (.slice L n c) xs):(L=none∧xs.length=0∧c=0)∨∃b,L=some ⟨b,0,none⟩:=by
 rcases h.2 with⟨e,hl⟩|⟨g,cap,cur,e,_⟩
 ·cases e;exact .inl ⟨rfl,hl,rfl⟩
 ·cases e;exact .inr ⟨g,rfl⟩
theorem DM.freshO{g u:Nat}{W0 w w' :World}{o:Obj}{row:Option Nat}(h:DM g u W0 w)(hg:(w.alloc o).grownBy w' row)(hr:∀k,row=some k→W0.heap.size≤k)(hlt:g<W0.heap.size):DM g u W0 w' :=(h.alloc o).fresh hg hr hlt
set_option linter.unusedSimpArgs false in
theorem drawTalkSay_any(A:Option Addr)(nn c:Nat)(zs:List Int)(w:World)(hn:nn=zs.length)(hc:nn≤c)(hm:c≤maxLen)(hr:∀z∈zs,0≤z∧z≤255)(hA:cB .u8 w A zs):
  Calls Tryz.prog 24 #[.slice A nn c] w (TalkSayD w):=by
 have HX:Hid (aD (w.alloc (.cells #[.int .i64 0,.int .i64 0,.slice none 0 0,.slice none 0 0] 33)) w.heap.size 33 [.int .i64 0,.int .i64 0,.slice none 0 0,.slice none 0 0]):=aD.new w _ [.int .i64 0,.int .i64 0,.slice none 0 0,.slice none 0 0]
 have HB:=zH (oA w (.cells #[.int .i64 0,.int .i64 0,.slice none 0 0,.slice none 0 0] 33))
 have HO:=zH (QU A nn c zs (w.alloc (.cells #[.int .i64 0,.int .i64 0,.slice none 0 0,.slice none 0 0] 33)) hn hc hm hr (hA.alloc _))
 clear hn hc hm hr hA
 go_enter Tryz.func24,Tryz.ntmps24
 go_upto_region 1 with fail
 obtain⟨W1,hW1⟩:∃W,w.alloc (.cells #[.int .i64 0,.int .i64 0,.slice none 0 0,.slice none 0 0] 33)=W:=⟨_,rfl⟩
 rw[hW1] at HO HX HB⊢
 clear hW1
 have hs1:=HX.out.lt
 go_wp2_with fail
 refine HO.out.mono ?_
 rintro e w2 ⟨rfl,hrd,hb⟩
 have HR:=zH hrd
 have HX2:=zH (HX.out.below hb)
 have HB2:=zH (aA HB.out hb)
 have hs2:W1.heap.size≤w2.heap.size:=hb.size
 obtain⟨g,hg⟩:∃g,W1.heap.size=g:=⟨_,rfl⟩
 rw[hg] at HR hs1 hs2⊢
 clear hrd hb HO HX HB hg
 go_wp2_with fail
 refine(PX g 0 12 _ (by omega) (by omega) (by omega) HR.out).mono ?_
 rintro e w3 ⟨T,B1,n1,c1,B2,m1,d1,rfl,hin,hsm,_,hr,hg⟩
 have HX3:=zH (HX2.out.grownO hg (fun j e=>by cases e;omega))
 have HB3:=zH (sN HB2.out hg HB2.out.size (by omega))
 have HR3:=zH hr
 have HT3:=zH hin
 have HSM:=zH hsm
 have hgw:g<w2.heap.size:=HR.out.lt
 have hs3:w2.heap.size≤w3.heap.size:=hg.size
 clear hr hg hin hsm HX2 HB2 HR
 go_upto_region 3 with fail
 have hZ:=aD.new w3 33 [.int .i64 T.things,.int .i64 T.now.known,.slice B1 n1 c1,.slice B2 m1 d1]
 have hbel:=oA w3 (.cells #[.int .i64 T.things,.int .i64 T.now.known,.slice B1 n1 c1,.slice B2 m1 d1] 33)
 have HX4:=zH (HX3.out.below hbel)
 have HB4:=zH (aA HB3.out hbel)
 have HM4:=zH (DM.start (HR3.out.below hbel))
 have HT4:=zH (HT3.out.below hbel)
 obtain⟨b5,hb5⟩:∃b5,w3.heap.size=b5:=⟨_,rfl⟩
 obtain⟨w4,hw4⟩:∃W,w3.alloc (.cells #[.int .i64 T.things,.int .i64 T.now.known,.slice B1 n1 c1,.slice B2 m1 d1] 33)=W:=⟨_,rfl⟩
 rw[hw4] at hZ HX4 HB4 HM4 HT4⊢
 rw[hb5] at hZ hs3
 try rw[hb5]
 have HZ4:=zH hZ
 clear hw4 hb5 hZ hbel HX3 HB3 HR3 HT3
 have HLT:Hid (w.heap.size<w2.heap.size∧w.heap.size<b5∧w2.heap.size≤b5∧w.heap.size≤g∧w.heap.size≠g):=⟨by omega,by omega,by omega,by omega,by omega⟩
 have hg4:g<w4.heap.size:=HM4.out.rd.lt
 have hOA:aK (w4.alloc (.cells #[] 9)) w4.heap.size (.slice (some ⟨w4.heap.size,0,none⟩) 0 0) []:=aK.lit w4 w4.heap.size [] (Nat.le_refl _) (by simp[maxLen])
 have HM5:=zH (HM4.out.alloc (.cells #[] 9))
 go_upto_region 4 with fail
 obtain⟨w5,hw5⟩:∃W,w4.alloc (.cells #[] 9)=W:=⟨_,rfl⟩
 rw[hw5] at hOA HM5
 rw[hw5]
 have HO5:=zH hOA
 clear hOA hw5
 go_wp2_with fail
 refine(cE g _ 6 _ (by omega) (by omega) (by omega) HM5.out.rd).mono ?_
 rintro e w6 ⟨k0,rfl,hk0,hk1,hr,hg⟩
 have hk5:=hk1 (by omega)
 have HM6:=zH (HM5.out.next hr hg)
 have HO6:=zH (owns_grownS HO5.out hg hg4)
 obtain⟨kk,rfl⟩:∃kk:Nat,k0=(kk:Int):=⟨k0.toNat,by omega⟩
 clear hr hg hk1 HM5 HO5
 go_wp2_with fail
 go_loopw [6,7] (fun v i wr=>∃(k:Nat) (ls:List ByteArray),k≤5∧i= .int .i64 k∧Hid (ls.length+k≤5)∧Hid (∀s∈ls,s.size≤110)∧Hid (aK wr w4.heap.size v ls)∧Hid (DM g (301+100*(5-k)) w4 wr)) (fun _ i _=>(Go.RowKit.intOf i).toNat)
 case atStart=>exact⟨kk,[],by omega,rfl,by unfold Hid;simp;omega,by unfold Hid;simp,HO6,HM6.out.more (by omega)⟩
 case round=>
  obtain⟨k,ls,hk,rfl,HLN,HLS,HO,HM⟩:=hrel
  obtain⟨v6,hv6⟩:∃v,u6=v:=⟨_,rfl⟩
  rw[hv6] at HO⊢
  clear hv6
  have HZ:=zH (HM.out.box HZ4.out (by have:=HLT.out;have:=HM4.out.rd.lt;omega))
  by_cases hpos:0<k
  ·have hdp:decide ((0:Int)<(k:Int))=true:=decide_eq_true (by omega)
   obtain⟨y,hy⟩:∃y,301+100*(5-k)=y:=⟨_,rfl⟩
   have hyb:y≤900:=by omega
   rw[hy] at HM
   have HYE:Hid (y+100=301+100*(5-(k-1))):=by unfold Hid;omega
   clear hy
   have hx0:=HZ.out.cell (i:=0) (v:= .int .i64 T.things) rfl
   have hx1:=HZ.out.cell (i:=1) (v:= .int .i64 T.now.known) rfl
   have hx2:=HZ.out.cell (i:=2) (v:= .slice B1 n1 c1) rfl
   have hx3:=HZ.out.cell (i:=3) (v:= .slice B2 m1 d1) rfl
   go_wp2_with fail
   refine(line_any g y _ _ _ _ _ _ _ _ _ (by omega) HM.out.rd).mono ?_
   rintro e w7 ⟨s,rfl,hsz,hr,hg⟩
   have HO7:=zH (owns_grownS HO.out hg hg4)
   have HM7:=zH (HM.out.next hr hg)
   have HNO:Hid (ls.length≤1048576):=by have:=HLN.out;unfold Hid;omega
   have hb7:w4.heap.size≤w7.heap.size:=HM7.out.gr.size
   clear hr hg hx0 hx1 hx2 hx3 HZ
   go_wp2_with (at_builtin;refine wpL_appV (W:=w7) rfl _ _ rfl w4.heap.size v6 ls rfl HO7.out s rfl HNO.out hb7 ?_;intro v' w8 ho hg _)
   have HO8:=zH ho
   have HM8:=zH (HM7.out.freshO hg (fun j e=>(World.ownsRow.lt HO7.out j e).1) hg4)
   clear ho hg
   rw[HYE.out] at HM8
   go_wp2_with fail
   go_roundw
   case rel=>exact⟨k-1,ls++[s],by omega,by go_num,by have:=HLN.out;unfold Hid;rw[List.length_append,List.length_singleton];omega,fun x hx=>by
    rcases List.mem_append.1 hx with h|h
    ·exact HLS.out x h
    ·rw[List.mem_singleton.1 h];exact hsz,HO8,HM8⟩
   case measure=>simp[Go.RowKit.intOf];omega
  ·obtain rfl:k=0:=by omega
   obtain⟨L,c6,rfl,hlc,hlm,hstr,_⟩:=HO.out.form
   have hlen:=HLN.out
   have HSH:=zH (owns_shapeS HO.out)
   have HST:=zH hstr
   clear hstr HZ
   go_wp2_with fail
   refine(E4 _ (by omega) (by omega) (by omega) HM.out.rd).mono ?_
   rintro e w9 ⟨bo,rfl,_,hr,hg⟩
   have HM9:=zH (HM.out.next hr hg)
   have HO9:=zH (owns_grownS HO.out hg hg4)
   have HB9:Hid (Below w.heap.size w w9):=sN HB4.out HM9.out.gr HB4.out.size HLT.out.2.2.2.1
   have HX9:=zH (HM9.out.box HX4.out HLT.out.2.2.2.2)
   have HZ9:=zH (HM9.out.box HZ4.out (by have:=HLT.out;have:=HM4.out.rd.lt;omega))
   have HT9:=zH (HT4.out.keep (sH HM9.out.gr hgw))
   clear hr hg HM
   cases bo with
   |false=>
    have hstr9:a7 w9 L ls:=by
     obtain⟨L',c',e,_,_,h,_⟩:=HO9.out.form
     cases e;exact h
    have hL9:∀ad,L=some ad→ad.block≠w.heap.size:=fun ad e=>by
     have h1:=HLT.out
     have h2:=HB4.out.size
     have h3:=HX4.out.lt
     have:=(World.ownsRow.lt HO9.out ad.block (by rw[e];rfl)).1;omega
    obtain⟨hz0,hz1,hz2,hz3⟩:_∧_∧_∧_:=⟨HZ9.out.cell (i:=0) (v:= .int .i64 T.things) rfl,HZ9.out.cell (i:=1) (v:= .int .i64 T.now.known) rfl,HZ9.out.cell (i:=2) (v:= .slice B1 n1 c1) rfl,HZ9.out.cell (i:=3) (v:= .slice B2 m1 d1) rfl⟩
    obtain⟨⟨ha0,ha1,ha2,ha3,ha4,ha5,ha6,ha7⟩,⟨hb2,hb3⟩,⟨hb4,hb5⟩,⟨hb6,hb7⟩,HOUT⟩:=HX9.out.store4 (.int .i64 T.things) (.int .i64 T.now.known) (.slice B1 n1 c1) (.slice B2 m1 d1)
    have HBE:=zH (bG HB9.out (Nat.le_refl _) (.int .i64 T.things) (.int .i64 T.now.known) (.slice B1 n1 c1) (.slice B2 m1 d1))
    have HTE:=zH (HT9.out.keep (nL HLT.out.1 (.int .i64 T.things) (.int .i64 T.now.known) (.slice B1 n1 c1) (.slice B2 m1 d1))).at_
    have HLE:=zH (strs_exc hstr9 (fI.set4 w.heap.size w9 (.int .i64 T.things) (.int .i64 T.now.known) (.slice B1 n1 c1) (.slice B2 m1 d1)) (fun _=>hL9))
    clear hstr9 hL9
    go_wp2_with fail
    refine bodyPost_ret_by (aU (b:=w.heap.size) rfl rfl (by rfl) HOUT) rfl ⟨T,_,_,_,_,_,_,L,c6,ls,(by rfl),HTE.out,HSM.out,hlc,hlm,by omega,HLE.out,HSH.out,HLS.out,HBE.out⟩
   |true=>
    have hmk:=fun W=>run_make41S W
    have hrow:∀W:World,(W.alloc made41S).rowIs W.heap.size 9 41 (uM lines41 0):=fun W=>World.rowIs_made W (.string ByteArray.empty) 41 9
    go_upto_region 10 with fail
    have HB10:=zH (oA w9 made41S)
    have hstr10:=strs_made (hrow w9) (by rw[World.size_alloc];omega)
    have hs9:w.heap.size<w9.heap.size:=HX9.out.lt
    obtain⟨h10,hh10⟩:∃h,w9.heap.size=h:=⟨_,rfl⟩
    obtain⟨w10,hw10⟩:∃W,w9.alloc made41S=W:=⟨_,rfl⟩
    rw[hw10] at HB10 hstr10
    rw[hh10] at hstr10 hs9
    rw[hw10,hh10]
    have HZA:=zH (HZ9.out.below HB10.out)
    have HXA:=zH (HX9.out.below HB10.out)
    have HBA:=zH (aA HB9.out HB10.out)
    have HTA:=zH (HT9.out.below HB10.out)
    clear hmk hrow hh10 hw10 HB10 HZ9 HX9 HB9 HT9 HO9 HM9
    obtain⟨hz0,hz1,hz2,hz3⟩:_∧_∧_∧_:=⟨HZA.out.cell (i:=0) (v:= .int .i64 T.things) rfl,HZA.out.cell (i:=1) (v:= .int .i64 T.now.known) rfl,HZA.out.cell (i:=2) (v:= .slice B1 n1 c1) rfl,HZA.out.cell (i:=3) (v:= .slice B2 m1 d1) rfl⟩
    obtain⟨⟨ha0,ha1,ha2,ha3,ha4,ha5,ha6,ha7⟩,⟨hb2,hb3⟩,⟨hb4,hb5⟩,⟨hb6,hb7⟩,HOUT⟩:=HXA.out.store4 (.int .i64 T.things) (.int .i64 T.now.known) (.slice B1 n1 c1) (.slice B2 m1 d1)
    have HBE:=zH (bG HBA.out (Nat.le_refl _) (.int .i64 T.things) (.int .i64 T.now.known) (.slice B1 n1 c1) (.slice B2 m1 d1))
    have HTE:=zH (HTA.out.keep (nL HLT.out.1 (.int .i64 T.things) (.int .i64 T.now.known) (.slice B1 n1 c1) (.slice B2 m1 d1))).at_
    have HLE:=zH (strs_exc hstr10 (fI.set4 w.heap.size w10 (.int .i64 T.things) (.int .i64 T.now.known) (.slice B1 n1 c1) (.slice B2 m1 d1)) (fun _ ad e=>by cases e;simp only;omega))
    clear hstr10
    go_wp2_with fail
    refine bodyPost_ret_by (aU (b:=w.heap.size) rfl rfl (by rfl) HOUT) rfl ⟨T,_,_,_,_,_,_,some ⟨h10,0,none⟩,41,lines41,(by rfl),HTE.out,HSM.out,by decide,by omega,by decide,HLE.out,.inr ⟨_,rfl⟩,fun s hs=>by rw[(List.mem_replicate.1 hs).2];exact Nat.zero_le _,HBE.out⟩
end Go.Proofs.YtfhjcacfchkdpaaGreatDoor
