/-
  Chapter 9, by the door: what is drawn of a journal's text.
-/
import Derived.Test.YtfhjcacfchkdpaaGreatDoorU49
set_option maxRecDepth 100000
set_option maxHeartbeats 32000000
namespace Go.Proofs.YtfhjcacfchkdpaaGreatDoor
open Go.RowKit
theorem deedB_of(d:bK):bL (b8 d)=eV (p9 d):=rfl
def linesB(ds:List bK):List UInt8:=dF (ds.map p9)
def jourB(ds:List bK):ByteArray:=cJ (pQ (ds.map p9))
theorem linesB_snoc{ds:List bK}{k:Nat}{d:bK}(h:Hid (ds[k]? =some d)):linesB (ds.take (k+1))=linesB (ds.take k)++(bL (b8 d)++[10]):=by
 unfold linesB
 rw[KT h,List.map_append,List.map_cons,List.map_nil,KM];rfl
theorem jour_none{ds:List bK}{d:bK}(h:d∈ds)(he:b8 d=⟨#[]⟩):jourB ds=⟨#[]⟩:=by
 unfold jourB pQ
 rw[if_pos]
 ·rfl
 ·refine List.any_eq_true.2 ⟨p9 d,List.mem_map_of_mem h,?_⟩
  rw[←deedB_of,he];rfl
theorem jour_end{ds:List bK}(h:CM ds ds.length):jourB ds=cJ (linesB ds):=by
 unfold jourB linesB
 rw[D7]
 intro d hd he
 obtain⟨x,hx,rfl⟩:=List.mem_map.1 hd
 obtain⟨j,hj⟩:=List.mem_iff_getElem?.1 hx
 exact h j x (List.getElem?_eq_some_iff.1 hj).1 hj (gI (by rw[deedB_of];exact he))
theorem deed_size(d:bK):(b8 d).size≤d.2.size+5:=by
 rw[←gF]
 unfold b8
 rw[kO]
 unfold eV
 split
 ·rw[List.length_append];show 5+(bL d.2).length≤_;rw[gF];omega
 split
 ·rw[List.length_append];show 4+(bL d.2).length≤_;rw[gF];omega
 split
 ·show 4≤_;omega
 ·exact Nat.zero_le _
theorem lines_size{ds:List bK}(hs:∀d∈ds,d.2.size≤1048576):∀k,k≤ds.length→(linesB (ds.take k)).length≤k*1048582
 |0,_=>by rw[List.take_zero];exact Nat.zero_le _
 |k+1,h=>by
  have ih:=lines_size hs k (by omega)
  have hx:Hid (ds[k]? =some ds[k]):=List.getElem?_eq_getElem (by omega)
  rw[linesB_snoc hx,List.length_append,List.length_append,gF]
  have:=deed_size ds[k]
  have:=hs ds[k] (List.getElem_mem _)
  show _+(_+1)≤_
  omega
theorem sJournalText(A:Option Addr)(n c:Nat)(ds:List bK)(w:World)(ha:sA w A n c ds)(hs:∀d∈ds,d.2.size≤1048576):
  Calls Tryz.prog 39 #[.slice A n c] w fun e w' =>e= .returned (.string (jourB ds))∧Below w.heap.size w w' :=by
 have HA:=zH ha
 obtain rfl:=ha.hn
 have hl:=ha.hl
 have HS:=zH hs
 have HSZ:=zH (lines_size hs)
 have HNO:Hid (∀d∈ds,b8 d=⟨#[]⟩→jourB ds=⟨#[]⟩):=fun d hd he=>jour_none hd he
 have HEND:=zH (jour_end (ds:=ds))
 obtain⟨J,HJ⟩:∃J,Hid (jourB ds=J):=⟨_,rfl⟩
 rw[HJ.out] at HNO HEND⊢
 clear ha hs
 go_enter Tryz.func39,Tryz.ntmps39
 go_wp2_with fail
 go_loopw [3,4] (fun o i wr=>∃(k:Nat) (u:ByteArray),k≤ds.length∧i= .int .i64 k∧o= .string u∧Hid (bL u=linesB (ds.take k))∧u.size≤k*1048582∧Hid (CM ds k)∧Hid (Below w.heap.size w wr)) (fun _ i _=>ds.length-(Go.RowKit.intOf i).toNat)
 case atStart=>exact⟨0,⟨#[]⟩,Nat.zero_le _,rfl,rfl,rfl,Nat.zero_le _,(fun j d h=>by omega),Below.refl _ _⟩
 case round=>
  obtain⟨k,u,hk,rfl,rfl,hU,hus,hT,hB⟩:=hrel
  by_cases hlt:k<ds.length
  ·obtain⟨b,off,f,g,rfl,hc0,hc1,hx,hbl⟩:=(HA.out.hA.below hB.out).elem hlt
   have hgs:g.size≤1048576:=HS.out (f,g) (vU hx)
   have hds:=deed_size (f,g)
   have HD:Hid (∀W:World,Calls Tryz.prog 84 #[.agg #[.int .i64 f,.string g]] W fun e w' =>e= .returned (.string (b8 (f,g)))∧Below W.heap.size W w'):=fun W=>oL f g W hgs
   have HNX:Hid (b8 (f,g)≠⟨#[]⟩→CM ds (k+1)):=fun h=>hT.out.next hx h
   have HL:=zH (linesB_snoc hx)
   have HNK:=zH (HNO.out (f,g) (vU hx))
   obtain⟨x,hxe⟩:∃x,b8 (f,g)=x:=⟨_,rfl⟩
   rw[hxe] at HD HNX HL HNK hds
   clear hxe
   have hxz:x.size≤1048581:=Nat.le_trans hds (by show g.size+5≤_;omega)
   clear hds
   by_cases he:x=⟨#[]⟩
   ·have HJE:=zH (HNK.out he)
    subst he
    go_wp2_with (go_at_call 84;refine(HD.out _).mono ?_;rintro e w2 ⟨rfl,hb⟩;have hB2:=zH (aA hB.out hb);clear hb hc0 hc1)
    go_ret
    exact⟨by rw[HJE.out]<;>rfl,hB2.out⟩
   ·have HN2:=zH (HNX.out he)
    obtain⟨hn1,hn2,hn3,hn4,hn5⟩:=vJ he
    have hz:(9223372036854775807<u.size+x.size)=False:=by simp;omega
    have hz2:(9223372036854775807<u.size+x.size+1)=False:=by simp;omega
    have HUN:Hid (bL ((u++x)++⟨#[10]⟩)=linesB (ds.take (k+1))):=by
     unfold Hid
     rw[HL.out,lD,lD,hU.out,List.append_assoc];rfl
    have hsz:((u++x)++⟨#[10]⟩:ByteArray).size≤(k+1)*1048582:=by
     rw[ByteArray.size_append,ByteArray.size_append]
     show u.size+x.size+1≤_
     omega
    have hsz2:=zH hsz
    clear he hsz
    go_wp2_with (go_at_call 84;refine(HD.out _).mono ?_;rintro e w2 ⟨rfl,hb⟩;have hB:=zH (aA hB.out hb);replace hc0:=((Below.cell hb (p:=⟨b,off+k*2,none⟩)) hbl.out).trans hc0;replace hc1:=((Below.cell hb (p:=⟨b,off+k*2+1,none⟩)) hbl.out).trans hc1;replace hbl:=zH (Nat.lt_of_lt_of_le hbl.out hb.size);clear hb)
    go_roundw
    case rel=>exact⟨k+1,_,by omega,by go_num,rfl,HUN,hsz2.out,HN2,by assumption⟩
    case measure=>simp[Go.RowKit.intOf];omega
  ·obtain rfl:k=ds.length:=by omega
   have HJE:=zH (HEND.out hT.out)
   rw[List.take_length] at hU
   go_wp2_with fail
   go_ret
   exact⟨by rw[HJE.out,←hU.out,r7]<;>rfl,hB.out⟩
theorem deeds_at{w:World}{base:Nat}{A:Option Addr}{n c:Nat}{ds:List bK}(h:bU w base (.slice A n c) ds):i7 w A ds:=by
 obtain⟨A',c',e,_,_,h2,_⟩:=h.form
 cases e
 exact h2
theorem written_any(g u:Nat)(w:World)(hu:u≤600000)(hR:Rd w g u):
  Calls Tryz.prog 40 #[.pointer (some ⟨g,0,none⟩)] w (NR 5 g (u+600) w):=by
 have hlt:=hR.lt
 have HO:Hid (bU (w.alloc (.cells #[] 41)) w.heap.size (.slice (some ⟨w.heap.size,0,none⟩) 0 0) []):=bU.lit0 w _ (Nat.le_refl _)
 have HM:Hid (DM g u w (w.alloc (.cells #[] 41))):=(DM.start hR).alloc _
 have hs1:g<(w.alloc (.cells #[] 41)).heap.size:=by rw[World.size_alloc];omega
 have hs2:w.heap.size<(w.alloc (.cells #[] 41)).heap.size:=by rw[World.size_alloc];omega
 clear hR
 go_enter Tryz.func40,Tryz.ntmps40
 go_upto_region 2 with fail
 obtain⟨W1,hW1⟩:∃W,w.alloc (.cells #[] 41)=W:=⟨_,rfl⟩
 rw[hW1] at HO HM hs1 hs2⊢
 clear hW1
 go_wp2_with fail
 refine(PX g u 0 _ (by omega) (by omega) (by omega) HM.out.rd).mono ?_
 rintro e w2 ⟨T,A,n,c,B,m,d,rfl,hin,hsm,_,hr,hg⟩
 have HO2:=zH (x5 HO.out hg hlt)
 have HM2:=zH (HM.out.next hr hg)
 have HIN:=zH hin
 have HSM:=zH hsm
 have hs3:W1.heap.size≤w2.heap.size:=hg.size
 clear hin hsm hr hg HO HM
 go_wp2_with fail
 refine(OH g (u+300) T A B n c m d _ W1.heap.size hs1 HIN.out HSM.out (by omega) HM2.out.rd).mono ?_
 rintro e w3 ⟨v,ds,rfl,ho,hlen,hds,hr,hg⟩
 obtain⟨Al,cl,rfl,_⟩:=ho.form
 have HO3:=zH (x5 HO2.out hg hlt)
 have HM3:=zH (HM2.out.next hr hg)
 have HL3:=zH ho
 have HDS:=zH hds
 have hs4:w2.heap.size≤w3.heap.size:=hg.size
 obtain⟨nl,hnl⟩:∃nl,ds.length=nl:=⟨_,rfl⟩
 have HNL:=zH hnl
 rw[hnl] at HL3 hlen⊢
 clear ho hr hg hds HO2 HM2 HIN HSM hnl
 go_wp2_with fail
 go_loopw [3,5] (fun v i wr=>∃(j:Nat) (es:List bK),j≤nl∧i= .int .i64 j∧Hid (es.length≤j)∧Hid (bU wr w.heap.size v es)∧Hid (bU wr w2.heap.size (.slice Al nl cl) ds)∧Hid (∀k,v.ownBlock=some k→k<w2.heap.size∨w3.heap.size≤k)∧Hid (∀d∈es,d.2.size≤100)∧Hid (DM g (u+600) w wr)∧Hid (aX w2.heap.size w3 wr)) (fun _ i _=>nl-(Go.RowKit.intOf i).toNat)
 case atStart=>exact⟨0,[],Nat.zero_le _,rfl,Nat.le_refl _,HO3,HL3,fun k hk=>by simp only[Value.ownBlock,Option.some.injEq] at hk;omega,by unfold Hid;simp,HM3,aX.refl _ _⟩
 case round=>
  obtain⟨j,es,hj,rfl,HEL,HO,HL,HAP,HES,HM,HK⟩:=hrel
  by_cases hlt2:j<nl
  ·obtain⟨b,off,f,s,rfl,hc0,hc1,hx,hbl⟩:=(deeds_at HL.out).elem (i:=j) (by rw[HNL.out];exact hlt2)
   have hss:s.size≤100:=HDS.out (f,s) (vU hx)
   obtain⟨Ao,co,rfl,_⟩:=HO.out.form
   obtain⟨no,hno⟩:∃no,es.length=no:=⟨_,rfl⟩
   have HNO:=zH hno
   rw[hno] at HO HAP⊢
   have hnol:no≤5:=by have:=HEL.out;have:=HNO.out;omega
   clear hno
   obtain⟨x,hxe⟩:∃x,b8 (f,s)=x:=⟨_,rfl⟩
   have HD:Hid (∀W:World,Calls Tryz.prog 84 #[.agg #[.int .i64 f,.string s]] W fun e w' =>e= .returned (.string x)∧Below W.heap.size W w'):=fun W=>by rw[←hxe];exact oL f s W (by omega)
   clear hxe
   by_cases he:x=⟨#[]⟩
   ·subst he
    go_wp2_with (go_at_call 84;refine(HD.out _).mono ?_;rintro e w5 ⟨rfl,hb⟩;have HO5:=zH (HO.out.below hb);have HL5:=zH (HL.out.below hb);have HM5:=zH (HM.out.below hb);have HK5:=zH (HK.out.below hb);clear hb hc0 hc1)
    go_roundw
    case rel=>exact⟨j+1,es,by omega,by go_num,by have:=HEL.out;unfold Hid;omega,HO5,HL5,HAP,HES,HM5,HK5⟩
    case measure=>simp[Go.RowKit.intOf];omega
   ·obtain⟨hn1,hn2,hn3,hn4,hn5⟩:=vJ he
    have HNO4:Hid (es.length≤1048576):=by unfold Hid;rw[HNO.out];omega
    have HW0:Hid (w.heap.size≤wr.heap.size):=HM.out.gr.size
    clear he
    go_wp2_with (first
     |(go_at_call 84;refine(HD.out _).mono ?_;rintro e w5 ⟨rfl,hb⟩;have HO5:=zH (HO.out.below hb);have HL5:=zH (HL.out.below hb);have HM5:=zH (HM.out.below hb);have HK5:=zH (HK.out.below hb);have HW5:=zH (Nat.le_trans HW0.out hb.size);replace hc0:=((Below.cell hb (p:=⟨b,off+j*2,none⟩)) hbl.out).trans hc0;replace hc1:=((Below.cell hb (p:=⟨b,off+j*2+1,none⟩)) hbl.out).trans hc1;clear hb)
     |(at_builtin;refine vP (W:=w5) rfl _ _ rfl w.heap.size (.slice Ao no co) es rfl HO5.out f s rfl HNO4.out HW5.out ?_;intro v' w10 ho hg hat;have HFO:=zH ho;have HFM:=zH ((HM5.out.alloc (.cells #[.int .i64 f,.string s] 41)).fresh hg (fun j e=>(HO5.out.lt e).1) hlt);have hkk:aX w2.heap.size w3 w10:=⟨Nat.le_trans HK5.out.1 (Nat.le_trans (by rw[World.size_alloc];omega) hg.size),fun q hq1 hq2=>(hg.block q (by rw[World.size_alloc];have:=HK5.out.1;omega) (fun e=>by have:=HAP.out q e.symm;omega)).trans ((Below.heap_alloc w5 _ q (Nat.lt_of_lt_of_le hq2 HK5.out.1)).trans (HK5.out.2 q hq1 hq2))⟩;have HFK:=zH hkk;have HFL:=zH (HL3.out.keep hkk);have HFA:Hid (∀k,v'.ownBlock=some k→k<w2.heap.size∨w3.heap.size≤k):=(fun k hk=>by rcases hat k hk with e|e;exact HAP.out k e;have:=HK5.out.1;omega);clear ho hg hat hkk))
    go_roundw
    case rel=>exact⟨j+1,es++[(f,s)],by omega,by go_num,by have:=HEL.out;unfold Hid;rw[List.length_append];simp;omega,HFO,HFL,HFA,fun d hd=>by
     rcases List.mem_append.1 hd with h|h
     ·exact HES.out d h
     ·rw[List.mem_singleton] at h;rw[h];exact hss,HFM,HFK⟩
    case measure=>simp[Go.RowKit.intOf];omega
  ·obtain rfl:j=nl:=by omega
   go_wp2_with fail
   go_ret
   exact⟨_,es,rfl,HO.out,by have:=HEL.out;omega,HES.out,HM.out.rd,HM.out.gr⟩
def wordsS:List ByteArray:=[⟨#[]⟩,⟨#[97]⟩,⟨#[32]⟩,⟨#[10]⟩,⟨#[40]⟩,⟨#[98,97,99,107]⟩]
theorem wordsS_size{x:ByteArray}(h:x∈wordsS):x.size≤4:=by
 simp only[wordsS,List.mem_cons,List.not_mem_nil,or_false] at h
 rcases h with rfl|rfl|rfl|rfl|rfl|rfl<;>decide
theorem litS_here{k:Int}(h0:0≤k)(hk:k<6):∃x:ByteArray,x∈wordsS∧∀h,[Value.string ⟨#[]⟩,.string ⟨#[97]⟩,.string ⟨#[32]⟩,.string ⟨#[10]⟩,.string ⟨#[40]⟩,.string ⟨#[98,97,99,107]⟩][k.toNat]'h= .string x:=by
 have h5:k=0∨k=1∨k=2∨k=3∨k=4∨k=5:=by omega
 rcases h5 with rfl|rfl|rfl|rfl|rfl|rfl<;>exact⟨_,by simp[wordsS],fun _=>rfl⟩
def SpoilPost(hi g u:Nat)(w:World)(e:Ending)(w' :World):Prop:=∃s:ByteArray,e= .returned (.string s)∧s.size≤hi∧Rd w' g u∧w.grownBy w' (some g)
theorem spoil_any(g u:Nat)(s:ByteArray)(w:World)(hs:s.size≤100000)(hu:u≤900000)(hR:Rd w g u):
  Calls Tryz.prog 42 #[.pointer (some ⟨g,0,none⟩),.string s] w (SpoilPost (s.size+4) g (u+2) w):=by
 have HR:=zH hR
 have hlt:=hR.lt
 clear hR
 by_cases he:s=⟨#[]⟩
 ·subst he
  have HP:Hid (Rd w g (u+2)∧w.grownBy w (some g)):=⟨HR.out.more (by omega),World.grownBy.refl _ _⟩
  go_enter Tryz.func42,Tryz.ntmps42
  go_wp2_with fail
  go_ret
  exact⟨_,rfl,by decide,HP.out⟩
 ·have hpos:0<s.size:=by
   rcases Nat.eq_zero_or_pos s.size with h|h
   ·exact absurd (by apply ByteArray.ext;exact Array.eq_empty_of_size_eq_zero h) he
   ·exact h
  have hz:((s.size:Int)==0)=false:=by rw[beq_eq_false_iff_ne];omega
  clear he
  go_enter Tryz.func42,Tryz.ntmps42
  go_wp2_with fail
  refine(cE g _ _ _ (by omega) (by omega) (by omega) HR.out).mono ?_
  rintro e w4 ⟨k,rfl,hk0,hk1,hr,hg⟩
  have hkk:=hk1 (by omega)
  have hlt4:g<w4.heap.size:=hr.lt
  have HR4:=zH hr
  have HG4:=zH hg
  clear hr hg hk1
  obtain⟨l,hl⟩:∃l,k+1=l:=⟨_,rfl⟩
  obtain⟨p1,hp1⟩:∃p,s.extract 0 k.toNat=p:=⟨_,rfl⟩
  obtain⟨p2,hp2⟩:∃p,s.extract l.toNat s.size=p:=⟨_,rfl⟩
  have hE1:p1.size≤s.size:=by rw[←hp1,ByteArray.size_extract];omega
  have hE2:p2.size≤s.size:=by rw[←hp2,ByteArray.size_extract];omega
  have HE:Hid (p1.size+p2.size≤s.size):=by unfold Hid;rw[←hp1,←hp2,ByteArray.size_extract,ByteArray.size_extract];omega
  have hks:k≤(s.size:Int):=by omega
  have hl1:l≤(s.size:Int):=by omega
  have hl0:0≤l:=by omega
  have HRd:=zH (cE g _ 6 w4.drew (by omega) (by omega) (by omega) (HR4.out.drewN 1))
  have HRa:=zH (cE g _ 6 (w4.alloc (.cells #[.string ⟨#[]⟩,.string ⟨#[97]⟩,.string ⟨#[32]⟩,.string ⟨#[10]⟩,.string ⟨#[40]⟩,.string ⟨#[98,97,99,107]⟩] 9)).drew (by omega) (by omega) (by omega) ((HR4.out.alloc _).drewN 1))
  have hw:IntKind.i64.wrap (k+1)=l:=(IntWalk.i64_in _ (by omega)).trans hl
  clear hl
  go_upto_region 4 with fail
  go_region_with (first
   |(go_at_call 41;(with_reducible refine HRa.out.mono ?_);rintro e w5 ⟨k5,rfl,hk50,hk51,hr,hg⟩;have hk52:=hk51 (by omega);obtain⟨x,HX,hcell⟩:=YH wordsS hg hlt4 hk50 (by simp[wordsS];omega);have hx1:=wordsS_size HX;have HP:=zH (XZ (u' :=u+2) HG4.out hr hg (by omega));clear hr hg hk51 HX)
   |(go_at_call 41;(with_reducible refine HRd.out.mono ?_);rintro e w5 ⟨k5,rfl,hk50,hk51,hr,hg⟩;have hk52:=hk51 (by omega);obtain⟨x,HX,hcell⟩:=litS_here hk50 hk52;have hx1:=wordsS_size HX;have HP:=zH (XI (u' :=u+2) HG4.out hr hg (by omega));clear hr hg hk51 HX))
  all_goals
   clear HRd HRa hp1 hp2 hks hl1 hl0 hw
   go_wp2_with fail
   go_ret
   refine⟨_,rfl,?_,by first|exact HP.out|exact HP.out _⟩
   have:=HE.out
   rw[ByteArray.size_append,ByteArray.size_append]
   omega
def TextD(hi:Nat)(w:World)(e:Ending)(w' :World):Prop:=∃s:ByteArray,e= .returned (.string s)∧s.size≤hi∧Below w.heap.size w w'
theorem lines_len:∀ds:List bK,(∀d∈ds,d.2.size≤100)→(linesB ds).length≤ds.length*106
 |[],_=>Nat.le_refl _
 |d::ds,h=>by
  have h1:=lines_len ds fun x hx=>h x (List.mem_cons_of_mem _ hx)
  have h2:=deed_size d
  have h3:=h d List.mem_cons_self
  have e:linesB (d::ds)=(bL (b8 d)++[10])++linesB ds:=by
   unfold linesB dF
   rw[List.map_cons,List.flatMap_cons,deedB_of]
  rw[e,List.length_append,List.length_append,gF]
  simp only[List.length_cons,List.length_nil]
  omega
theorem jour_len{ds:List bK}(h:∀d∈ds,d.2.size≤100):(jourB ds).size≤ds.length*106:=by
 show(pQ (ds.map p9)).length≤_
 unfold pQ
 split
 ·exact Nat.zero_le _
 ·exact lines_len ds h
theorem drawReadJournal_any(A:Option Addr)(nn c:Nat)(zs:List Int)(w:World)(hn:nn=zs.length)(hc:nn≤c)(hm:c≤maxLen)(hr:∀z∈zs,0≤z∧z≤255)(hA:cB .u8 w A zs):
  Calls Tryz.prog 8 #[.slice A nn c] w (TextD 600 w):=by
 have HO:=zH (QU A nn c zs w hn hc hm hr hA)
 clear hn hc hm hr hA
 go_enter Tryz.func8,Tryz.ntmps8
 go_wp2_with fail
 refine HO.out.mono ?_
 rintro e w2 ⟨rfl,hrd,hb⟩
 have HR:=zH hrd
 have HB2:=zH hb
 obtain⟨g,hg⟩:∃g,w.heap.size=g:=⟨_,rfl⟩
 rw[hg] at HR⊢
 have hgw:w.heap.size≤g:=by omega
 clear hrd hb HO
 go_wp2_with fail
 refine(written_any g 0 _ (by omega) HR.out).mono ?_
 rintro e w3 ⟨v,ds,rfl,ho,hl,hsz,hr,hg⟩
 have HR3:=zH hr
 have HB3:=zH (sN HB2.out hg HB2.out.size hgw)
 obtain⟨L,lc,rfl,_⟩:=ho.form
 have HJ:=zH (sJournalText L ds.length lc ds w3 (bU.row ho (by omega)) (fun d hd=>by have:=hsz d hd;omega))
 have hjs:=jour_len hsz
 obtain⟨x,hx⟩:∃x,jourB ds=x:=⟨_,rfl⟩
 rw[hx] at HJ hjs
 have hxs:x.size≤530:=by omega
 clear hr hg ho HR hjs hx
 go_wp2_with fail
 refine HJ.out.mono ?_
 rintro e w4 ⟨rfl,hb⟩
 have HR4:=zH (HR3.out.below hb)
 have HB4:=zH (aA HB3.out hb)
 clear hb HR3 HB3 HJ
 go_wp2_with fail
 refine(cE g _ 3 _ (by omega) (by omega) (by omega) HR4.out).mono ?_
 rintro e w5 ⟨q,rfl,hq0,hq1,hr,hg⟩
 have HR5:=zH hr
 have HB5:=zH (sN HB4.out hg HB4.out.size hgw)
 have hq3:=hq1 (by omega)
 clear hr hg hq1
 have h3:q=0∨q=1∨q=2:=by omega
 clear hq0 hq3
 rcases h3 with rfl|rfl|rfl
 ·go_wp2_with fail
  refine(spoil_any g _ x _ (by omega) (by omega) HR5.out).mono ?_
  rintro e w7 ⟨y,rfl,hy,hr,hg⟩
  have HB7:=zH (sN HB5.out hg HB5.out.size hgw)
  clear hr hg
  go_wp2_with fail
  go_ret
  exact⟨y,rfl,by omega,HB7.out⟩
 ·obtain⟨m,hm⟩:∃m,min (x.size:Int) 250=m:=⟨_,rfl⟩
  have hm0:0≤m:=by omega
  have hm1:m≤250:=by omega
  have hm2:m≤(x.size:Int):=by omega
  obtain⟨l,hl⟩:∃l,m+1=l:=⟨_,rfl⟩
  have hw:IntKind.i64.wrap (m+1)=l:=(IntWalk.i64_in _ (by omega)).trans hl
  have hl0:1≤l:=by omega
  have hl1:l≤251:=by omega
  have hl2:l≤(x.size:Int)+1:=by omega
  clear hl
  go_wp2_with fail
  refine(cE g _ l _ (by omega) (by omega) (by omega) HR5.out).mono ?_
  rintro e w7 ⟨k,rfl,hk0,hk1,hr,hg⟩
  have hk2:=hk1 hl0
  have hk3:k≤(x.size:Int):=by omega
  have HB7:=zH (sN HB5.out hg HB5.out.size hgw)
  clear hr hg hk1 hw hm hm0 hm1 hm2
  go_wp2_with fail
  go_ret
  exact⟨_,rfl,by rw[ByteArray.size_extract];omega,HB7.out⟩
 ·go_wp2_with fail
  go_ret
  exact⟨x,rfl,by omega,HB5.out⟩
end Go.Proofs.YtfhjcacfchkdpaaGreatDoor
