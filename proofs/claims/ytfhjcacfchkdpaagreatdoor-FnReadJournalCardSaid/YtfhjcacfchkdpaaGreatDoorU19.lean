/-
  What the proofs of this seat's statements share (RdS, JnT, JnR, TlkS, TlkT).
-/
import Derived.Lib.IndexLaws
import Derived.Deep.QuietTactic
import Derived.Deep.RegionHeld3
import Derived.Test.YtfhjcacfchkdpaaGreatDoorU18
set_option maxRecDepth 100000
set_option maxHeartbeats 32000000
namespace Go.Proofs.YtfhjcacfchkdpaaGreatDoor
open Go.RowKit
def jK(s:ByteArray):List bK:=
 ([(2,⟨#[]⟩)]++(if 5<s.size then[(0,cJ ((bL s).drop 5))] else[]))++(if 4<s.size then[(1,cJ ((bL s).drop 4))] else[])
theorem K3{s:ByteArray}(h:b8 (eT s)=s):eT s∈jK s:=by
 have key:∀n,0<((bL s).drop n).length→n<s.size:=fun n h=>by rw[List.length_drop,gF] at h;omega
 have pl:∀l:List UInt8,dC l=true→0<l.length:=fun l h=>by cases l with|nil=>cases h|cons _ _=>simp
 by_cases h5:(bL s).take 5=i1
 ·have e:eT s=(0,cJ ((bL s).drop 5)):=by unfold eT;rw[if_pos h5]
  rw[e] at h⊢
  have hp:dC ((bL s).drop 5)=true:=by
   cases hp:dC ((bL s).drop 5) with
   |true=>rfl
   |false=>
    exfalso
    rw[mF (fun h=>by rw[kO,hp] at h;exact absurd h.2 (by decide)) (fun h=>by omega)] at h
    rw[←h] at h5;exact absurd h5 (by decide)
  have h5' :=key 5 (pl _ hp)
  unfold jK
  rw[if_pos h5']
  simp
 by_cases h4:(bL s).take 4=lH
 ·have e:eT s=(1,cJ ((bL s).drop 4)):=by unfold eT;rw[if_neg h5,if_pos h4]
  rw[e] at h⊢
  have hp:dC ((bL s).drop 4)=true:=by
   cases hp:dC ((bL s).drop 4) with
   |true=>rfl
   |false=>
    exfalso
    rw[mF (fun h=>by rw[kO,hp] at h;exact absurd h.2 (by decide)) (fun h=>by omega)] at h
    rw[←h] at h4;exact absurd h4 (by decide)
  have h4' :=key 4 (pl _ hp)
  unfold jK
  rw[if_pos h4']
  simp
 ·have e:eT s=(2,⟨#[]⟩):=by unfold eT;rw[if_neg h5,if_neg h4];rfl
  rw[e]
  exact List.mem_append_left _ (List.mem_append_left _ (by simp))
def vK(s:ByteArray)(k:Nat):Prop:=∀j d,j<k→(jK s)[j]? =some d→¬(s≠⟨#[]⟩∧b8 d=s)
theorem NN{s:ByteArray}(h:vK s (jK s).length):dZ s=(0,⟨#[]⟩)∧fW s=false:=by
 by_cases hc:b8 (eT s)=s
 ·exfalso
  obtain⟨j,hj⟩:=List.mem_iff_getElem?.1 (K3 hc)
  refine h j _ (List.getElem?_eq_some_iff.1 hj).1 hj ⟨?_,hc⟩
  have:=(p4 (d:=eT s)).1 (by rw[wK,if_pos hc])
  rintro rfl
  exact this.2 rfl
 ·exact MK hc
theorem O9{s:ByteArray}{d:bK}(hs:s≠⟨#[]⟩)(h:b8 d=s):dZ s=d∧fW s=true:=by
 have:jN s=some d:=p4.2 ⟨h,fun e=>hs (gI e)⟩
 unfold dZ fW;rw[this];exact⟨rfl,rfl⟩
theorem LP{s:ByteArray}{d:bK}(h:d∈jK s):d.2.size≤s.size:=by
 unfold jK at h
 rcases List.mem_append.1 h with h|h
 ·rcases List.mem_append.1 h with h|h
  ·rw[List.mem_singleton.1 h];exact Nat.zero_le _
  ·split at h
   ·rw[List.mem_singleton.1 h];exact rP s 5
   ·cases h
 ·split at h
  ·rw[List.mem_singleton.1 h];exact rP s 4
  ·cases h
theorem OJ(s:ByteArray):(jK s).length≤3:=by
 unfold jK;split<;>split<;>simp
theorem oX(s:ByteArray)(n:Nat):s.extract n s.size=cJ ((bL s).drop n):=by
 apply gI
 rw[kO]
 unfold bL
 rw[ByteArray.data_extract,Array.toList_extract,List.extract_eq_take_drop]
 rw[List.take_of_length_le]
 rw[List.length_drop]
 exact Nat.le_refl _
theorem x7(w:World):∃W,(w.alloc (.cells #[.int .i64 0,.string ⟨#[]⟩] 41)).alloc (.cells #[.int .i64 2,.string ⟨#[]⟩] 41)=W∧bU W (w.heap.size+1) (.slice (some ⟨w.heap.size+1,0,none⟩) 1 1) [(2,⟨#[]⟩)]∧aD W w.heap.size 41 [.int .i64 0,.string ⟨#[]⟩]∧Below w.heap.size w W∧w.heap.size+1≤W.heap.size∧Hid (W.heap.size=w.heap.size+1+1):=by
 refine⟨_,rfl,?_,(aD.new w _ [.int .i64 0,.string ⟨#[]⟩]).alloc _,((Below.refl _ _).alloc (Nat.le_refl _) _).alloc (by rw[World.size_alloc];omega) _,?_,by unfold Hid;rw[World.size_alloc,World.size_alloc]⟩
 ·have:=bU.lit1 (w.alloc (.cells #[.int .i64 0,.string ⟨#[]⟩] 41)) (w.heap.size+1) (by rw[World.size_alloc];exact Nat.le_refl _) 2 ⟨#[]⟩
  rw[World.size_alloc] at this
  exact this
 ·rw[World.size_alloc,World.size_alloc];omega
theorem DN(s:ByteArray)(w:World)(hs:s.size≤1048576):
  Calls Tryz.prog 45 #[.string s] w fun e w' =>e= .returned (.tuple #[.agg #[.int .i64 (dZ s).1,.string (dZ s).2],.bool (fW s)])∧Below w.heap.size w w' :=by
 by_cases hse:s=⟨#[]⟩
 ·subst hse
  obtain⟨W,hW,ho,hz,hbel,_,_⟩:=x7 w
  obtain⟨⟨hz0,hz1,hz2,hz3⟩,⟨hz4,hz5⟩,HZ2⟩:=hz.store2 (.int .i64 0) (.string ⟨#[]⟩)
  have HB:=zH hbel
  clear ho hbel hz
  go_enter Tryz.func45,Tryz.ntmps45
  go_wp2_with fail
  clear hW
  refine wp_loop_rounds 2 ?_
  rw[rounds_succ]
  go_wp2_with fail
  rw[rounds_succ]
  go_wp2_with fail
  refine bodyPost_ret_by (dK (b:=w.heap.size) (v:= .bool false) rfl rfl rfl HZ2) rfl ⟨rfl,fN HB.out (Nat.le_refl _) _ _⟩
 obtain⟨hn1,hn2,hn3,hn4,hn5⟩:=vJ hse
 have HHIT:Hid (∀d:bK,b8 d=s→dZ s=d∧fW s=true):=fun d h=>O9 hse h
 have HEND:=zH (NN (s:=s))
 have HTS:Hid (∀d∈jK s,d.2.size≤s.size):=fun d h=>LP h
 have hl3:=OJ s
 obtain⟨L,HL⟩:∃L,Hid (jK s=L):=⟨_,rfl⟩
 rw[HL.out] at HEND HTS hl3
 replace hl3:L.length≤1048576:=by omega
 obtain⟨W,hW,ho0,hz0,hbel0,hsz0,HSE⟩:=x7 w
 have HO0:=zH ho0
 have HZ0:=zH hz0
 have HB0:=zH hbel0
 clear hse ho0 hz0 hbel0
 have hd4:decide ((4:Int)<(s.size:Int))=decide (4<s.size):=by rw[Bool.eq_iff_iff,decide_eq_true_iff,decide_eq_true_iff];omega
 have hd5:decide ((5:Int)<(s.size:Int))=decide (5<s.size):=by rw[Bool.eq_iff_iff,decide_eq_true_iff,decide_eq_true_iff];omega
 by_cases h4:4<s.size
 ·rw[decide_eq_true h4] at hd4
  by_cases h5:5<s.size
  ·rw[decide_eq_true h5] at hd5
   have HLL:Hid (L=([(2,⟨#[]⟩)]++[(0,s.extract 5 s.size)])++[(1,s.extract 4 s.size)]):=by
    unfold Hid
    rw[oX,oX,←HL.out];unfold jK;rw[if_pos h4,if_pos h5]
   have h4i:(4:Int)≤(s.size:Int):=by omega
   have h5i:(5:Int)≤(s.size:Int):=by omega
   clear h4 h5
   go_enter Tryz.func45,Tryz.ntmps45
   go_wp2_with (first
    |(at_builtin;refine nW (W:=W) rfl _ _ rfl (w.heap.size+1) (.slice (some ⟨w.heap.size+1,0,none⟩) 1 1) [(2,⟨#[]⟩)] rfl HO0.out 0 (s.extract 5 s.size) (by rw[HSE.out];rfl) (by simp) hsz0 ?_;intro v1 w1 ho1 hg1;have HZ1:=zH ((HZ0.out.alloc _).grownO hg1 (fun k e=>by have:=(World.ownsRow.lt HO0.out k e).1;omega));have HB1:=zH (lS HB0.out (by omega) HO0.out (by omega) hg1);have hsz1:w.heap.size+1≤w1.heap.size:=(by have:=hg1.size;rw[World.size_alloc] at this;omega);have HO1:=zH ho1;clear ho1 hg1 hW)
    |(at_builtin;refine nW (W:=w1) rfl _ _ rfl (w.heap.size+1) v1 _ rfl HO1.out 1 (s.extract 4 s.size) rfl (by simp) hsz1 ?_;intro v2 w2 ho hg2))
   have hz:=(HZ1.out.alloc _).grownO hg2 (fun k e=>by have:=(World.ownsRow.lt HO1.out k e).1;omega)
   have hbel:=lS HB1.out (by omega) HO1.out (by omega) hg2
   rw[←HLL.out] at ho
   clear hg2 hsz0 hsz1 hd4 hd5 h4i h5i
   obtain⟨A,c,rfl,_,_,_,_⟩:=ho.form
   have HO:=zH ho
   have HZ:=zH hz
   have HB:=zH hbel
   clear ho hz hbel
   go_wp2_with fail
   go_loopw [5] (fun i wr=>∃k:Nat,k≤L.length∧i= .int .i64 k∧Hid (vK s k)∧Hid (bU wr (w.heap.size+1) (.slice A L.length c) L)∧Hid (aD wr w.heap.size 41 [.int .i64 0,.string ⟨#[]⟩])∧Hid (Below w.heap.size w wr)) (fun i _=>L.length-(Go.RowKit.intOf i).toNat)
   case atStart=>exact⟨0,Nat.zero_le _,rfl,(fun j d h=>by omega),HO,HZ,HB⟩
   case round=>
    obtain⟨k,hk,rfl,hny,hO,hZ,hB⟩:=hrel
    by_cases hlt:k<L.length
    ·obtain⟨b,off,f,g,rfl,hc0,hc1,hx,hbl⟩:=((bU.row hO.out hl3).hA).elem hlt
     have hgs:g.size≤1048576:=Nat.le_trans (HTS.out (f,g) (vU hx)) hs
     by_cases he:b8 (f,g)=s
     ·have H12:=zH (HHIT.out (f,g) he)
      have HDT:Hid (∀W:World,Calls Tryz.prog 84 #[.agg #[.int .i64 f,.string g]] W fun e w' =>e= .returned (.string s)∧Below W.heap.size W w'):=fun W=>by
       have:=oL f g W hgs
       rw[he] at this;exact this
      clear he
      go_wp2_with (go_at_call 84;refine(HDT.out _).mono ?_;rintro e w2 ⟨rfl,hb⟩;have hB2:=zH (aA hB.out hb);obtain⟨⟨hz0,hz1,hz2,hz3⟩,⟨hz4,hz5⟩,HZ2⟩:=(hZ.out.below hb).store2 (.int .i64 f) (.string g);have hd0:=((Below.cell hb (p:=⟨b,off+k*2,none⟩)) hbl.out).trans hc0;have hd1:=((Below.cell hb (p:=⟨b,off+k*2+1,none⟩)) hbl.out).trans hc1;clear hb hc0 hc1)
      refine bodyPost_ret_by (dK (b:=w.heap.size) (v:= .bool true) rfl rfl rfl HZ2) rfl ⟨by rw[H12.out.1,H12.out.2],fN hB2.out (Nat.le_refl _) _ _⟩
     ·have hne:((b8 (f,g)).toList==s.toList)=false:=lT he
      have HNX:Hid (vK s (k+1)):=by
       intro j d hj hd hh
       by_cases e:j=k
       ·subst e
        have:=hx.out
        rw[HL.out] at hd
        rw[this] at hd
        cases hd
        exact he hh.2
       ·exact hny.out j d (by omega) hd hh
      clear he
      go_wp2_with (go_at_call 84;refine(oL f g _ hgs).mono ?_;rintro e w2 ⟨rfl,hb⟩;have hO2:=zH (hO.out.below hb);have hZ2:=zH (hZ.out.below hb);have hB2:=zH (aA hB.out hb);clear hb hc0 hc1)
      go_roundw
      case rel=>exact⟨k+1,by omega,by go_num,HNX,hO2,hZ2,hB2⟩
      case measure=>simp[Go.RowKit.intOf];omega
    ·obtain rfl:k=L.length:=by omega
     have H12:=zH (HEND.out hny.out)
     obtain⟨⟨hz0,hz1,hz2,hz3⟩,⟨hz4,hz5⟩,HZ2⟩:=hZ.out.store2 (.int .i64 0) (.string ⟨#[]⟩)
     go_wp2_with fail
     refine bodyPost_ret_by (dK (b:=w.heap.size) (v:= .bool false) rfl rfl rfl HZ2) rfl ⟨by rw[H12.out.1,H12.out.2],fN hB.out (Nat.le_refl _) _ _⟩
  ·rw[decide_eq_false h5] at hd5
   have HLL:Hid (L=[(2,⟨#[]⟩)]++[(1,s.extract 4 s.size)]):=by
    unfold Hid
    rw[oX,←HL.out];unfold jK;rw[if_pos h4,if_neg h5];rfl
   have h4i:(4:Int)≤(s.size:Int):=by omega
   clear h4 h5
   go_enter Tryz.func45,Tryz.ntmps45
   go_wp2_with (at_builtin;refine nW (W:=W) rfl _ _ rfl (w.heap.size+1) (.slice (some ⟨w.heap.size+1,0,none⟩) 1 1) [(2,⟨#[]⟩)] rfl HO0.out 1 (s.extract 4 s.size) (by rw[HSE.out];rfl) (by simp) hsz0 ?_;intro v1 w1 ho hg1)
   have hz:=(HZ0.out.alloc _).grownO hg1 (fun k e=>by have:=(World.ownsRow.lt HO0.out k e).1;omega)
   have hbel:=lS HB0.out (by omega) HO0.out (by omega) hg1
   rw[←HLL.out] at ho
   clear hg1 hsz0 hd4 hd5 h4i hW
   obtain⟨A,c,rfl,_,_,_,_⟩:=ho.form
   have HO:=zH ho
   have HZ:=zH hz
   have HB:=zH hbel
   clear ho hz hbel
   go_wp2_with fail
   go_loopw [5] (fun i wr=>∃k:Nat,k≤L.length∧i= .int .i64 k∧Hid (vK s k)∧Hid (bU wr (w.heap.size+1) (.slice A L.length c) L)∧Hid (aD wr w.heap.size 41 [.int .i64 0,.string ⟨#[]⟩])∧Hid (Below w.heap.size w wr)) (fun i _=>L.length-(Go.RowKit.intOf i).toNat)
   case atStart=>exact⟨0,Nat.zero_le _,rfl,(fun j d h=>by omega),HO,HZ,HB⟩
   case round=>
    obtain⟨k,hk,rfl,hny,hO,hZ,hB⟩:=hrel
    by_cases hlt:k<L.length
    ·obtain⟨b,off,f,g,rfl,hc0,hc1,hx,hbl⟩:=((bU.row hO.out hl3).hA).elem hlt
     have hgs:g.size≤1048576:=Nat.le_trans (HTS.out (f,g) (vU hx)) hs
     by_cases he:b8 (f,g)=s
     ·have H12:=zH (HHIT.out (f,g) he)
      have HDT:Hid (∀W:World,Calls Tryz.prog 84 #[.agg #[.int .i64 f,.string g]] W fun e w' =>e= .returned (.string s)∧Below W.heap.size W w'):=fun W=>by
       have:=oL f g W hgs
       rw[he] at this;exact this
      clear he
      go_wp2_with (go_at_call 84;refine(HDT.out _).mono ?_;rintro e w2 ⟨rfl,hb⟩;have hB2:=zH (aA hB.out hb);obtain⟨⟨hz0,hz1,hz2,hz3⟩,⟨hz4,hz5⟩,HZ2⟩:=(hZ.out.below hb).store2 (.int .i64 f) (.string g);have hd0:=((Below.cell hb (p:=⟨b,off+k*2,none⟩)) hbl.out).trans hc0;have hd1:=((Below.cell hb (p:=⟨b,off+k*2+1,none⟩)) hbl.out).trans hc1;clear hb hc0 hc1)
      refine bodyPost_ret_by (dK (b:=w.heap.size) (v:= .bool true) rfl rfl rfl HZ2) rfl ⟨by rw[H12.out.1,H12.out.2],fN hB2.out (Nat.le_refl _) _ _⟩
     ·have hne:((b8 (f,g)).toList==s.toList)=false:=lT he
      have HNX:Hid (vK s (k+1)):=by
       intro j d hj hd hh
       by_cases e:j=k
       ·subst e
        have:=hx.out
        rw[HL.out] at hd
        rw[this] at hd
        cases hd
        exact he hh.2
       ·exact hny.out j d (by omega) hd hh
      clear he
      go_wp2_with (go_at_call 84;refine(oL f g _ hgs).mono ?_;rintro e w2 ⟨rfl,hb⟩;have hO2:=zH (hO.out.below hb);have hZ2:=zH (hZ.out.below hb);have hB2:=zH (aA hB.out hb);clear hb hc0 hc1)
      go_roundw
      case rel=>exact⟨k+1,by omega,by go_num,HNX,hO2,hZ2,hB2⟩
      case measure=>simp[Go.RowKit.intOf];omega
    ·obtain rfl:k=L.length:=by omega
     have H12:=zH (HEND.out hny.out)
     obtain⟨⟨hz0,hz1,hz2,hz3⟩,⟨hz4,hz5⟩,HZ2⟩:=hZ.out.store2 (.int .i64 0) (.string ⟨#[]⟩)
     go_wp2_with fail
     refine bodyPost_ret_by (dK (b:=w.heap.size) (v:= .bool false) rfl rfl rfl HZ2) rfl ⟨by rw[H12.out.1,H12.out.2],fN hB.out (Nat.le_refl _) _ _⟩
 ·rw[decide_eq_false h4] at hd4
  have h5:¬5<s.size:=by omega
  rw[decide_eq_false h5] at hd5
  have HLL:Hid (L=[(2,⟨#[]⟩)]):=by
   unfold Hid
   rw[←HL.out];unfold jK;rw[if_neg h4,if_neg h5];rfl
  have hL1:(jK s).length=1:=by rw[HL.out,HLL.out];rfl
  have HNOT:Hid (b8 (2,⟨#[]⟩)≠s→dZ s=(0,⟨#[]⟩)∧fW s=false):=fun hne=>HEND.out fun j d hj hd hh=>by
   rw[HLL.out] at hj
   have e0:j=0:=by simp at hj;exact hj
   rw[HL.out,HLL.out,e0] at hd
   cases hd
   exact hne hh.2
  have hbox:aD W (w.heap.size+1) 41 [.int .i64 2,.string ⟨#[]⟩]:=by
   rw[←hW]
   have:=aD.new (w.alloc (.cells #[.int .i64 0,.string ⟨#[]⟩] 41)) 41 [.int .i64 2,.string ⟨#[]⟩]
   rw[World.size_alloc] at this
   exact this
  have HX:=zH hbox
  clear h4 h5 hbox hL1
  obtain⟨hc0,hc1⟩:W.cell? ⟨w.heap.size+1,0,none⟩=some (.int .i64 2)∧W.cell? ⟨w.heap.size+1,1,none⟩=some (.string ⟨#[]⟩):=⟨HX.out.cell rfl,HX.out.cell rfl⟩
  by_cases he:b8 (2,⟨#[]⟩)=s
  ·have H12:=zH (HHIT.out (2,⟨#[]⟩) he)
   have HDT:Hid (∀W:World,Calls Tryz.prog 84 #[.agg #[.int .i64 2,.string ⟨#[]⟩]] W fun e w' =>e= .returned (.string s)∧Below W.heap.size W w'):=fun W=>by
    have:=oL 2 ⟨#[]⟩ W (Nat.zero_le _)
    rw[he] at this;exact this
   clear he
   go_enter Tryz.func45,Tryz.ntmps45
   go_wp2_with fail
   clear hW
   refine wp_loop_rounds 1 ?_
   rw[rounds_succ]
   go_wp2_with (go_at_call 84;refine(HDT.out _).mono ?_;rintro e w2 ⟨rfl,hb⟩;have hB2:=zH (aA HB0.out hb);obtain⟨⟨hz0,hz1,hz2,hz3⟩,⟨hz4,hz5⟩,HZ2⟩:=(HZ0.out.below hb).store2 (.int .i64 2) (.string ⟨#[]⟩);have HX2:=HX.out.below hb;have hd0:=HX2.cell (i:=0) (v:= .int .i64 2) rfl;have hd1:=HX2.cell (i:=1) (v:= .string ⟨#[]⟩) rfl;clear hb hc0 hc1 HX2)
   refine bodyPost_ret_by (dK (b:=w.heap.size) (v:= .bool true) rfl rfl rfl HZ2) rfl ⟨by rw[H12.out.1,H12.out.2],fN hB2.out (Nat.le_refl _) _ _⟩
  ·have hne:((b8 (2,⟨#[]⟩)).toList==s.toList)=false:=lT he
   have H12:=zH (HNOT.out he)
   clear he
   go_enter Tryz.func45,Tryz.ntmps45
   go_wp2_with fail
   clear hW
   refine wp_loop_rounds 2 ?_
   rw[rounds_succ]
   go_wp2_with (go_at_call 84;refine(oL 2 ⟨#[]⟩ _ (Nat.zero_le _)).mono ?_;rintro e w2 ⟨rfl,hb⟩;have hB2:=zH (aA HB0.out hb);obtain⟨⟨hz0,hz1,hz2,hz3⟩,⟨hz4,hz5⟩,HZ2⟩:=(HZ0.out.below hb).store2 (.int .i64 0) (.string ⟨#[]⟩);clear hb hc0 hc1)
   rw[rounds_succ]
   go_wp2_with fail
   refine bodyPost_ret_by (dK (b:=w.heap.size) (v:= .bool false) rfl rfl rfl HZ2) rfl ⟨by rw[H12.out.1,H12.out.2],fN hB2.out (Nat.le_refl _) _ _⟩
def CM(ds:List bK)(k:Nat):Prop:=∀j d,j<k→ds[j]? =some d→b8 d≠⟨#[]⟩
theorem CM.next{ds:List bK}{k:Nat}{d:bK}(h:CM ds k)(hx:Hid (ds[k]? =some d))(hd:b8 d≠⟨#[]⟩):CM ds (k+1):=by
 intro j x hj hx2
 by_cases e:j=k
 ·subst e
  rw[hx.out] at hx2;cases hx2;exact hd
 ·exact h j x (by omega) hx2
theorem j7(s:ByteArray)(a b:Nat):bL (s.extract a b)=((bL s).take b).drop a:=by
 unfold bL
 rw[ByteArray.data_extract,Array.toList_extract,List.extract_eq_take_drop,List.drop_take]
theorem k5{s:ByteArray}{a b:Nat}(h:b≤s.size):(s.extract a b).size=b-a:=by
 rw[←gF,j7,List.length_drop,List.length_take,gF];omega
theorem Q2(s:ByteArray)(c:UInt8)(h:Hid (∀k:Nat,(bL s)[k]?≠some c))(w:World):
  Calls Tryz.prog 85 #[.string s,.string ⟨#[c]⟩] w fun e w' =>e= .returned (.tuple #[.string s,.string ⟨#[]⟩,.bool false])∧∃n,w' =w.drewN n:=by
 have hix:Lib.indexByte s.data.toList c= -1:=by
  have hge:=Lib.indexByte_ge s.data.toList c
  by_cases hn:Lib.indexByte s.data.toList c= -1
  ·exact hn
  ·exfalso
   obtain⟨o,ho⟩:∃o:Nat,Lib.indexByte s.data.toList c=(o:Int):=⟨(Lib.indexByte s.data.toList c).toNat,by omega⟩
   exact h.out o (Lib.indexByte_some ho).1
 go_enter Tryz.func85,Tryz.ntmps85
 go_wp2_with fail
 refine(Tryz.stringslite_Index_one s c w).mono ?_
 rintro e w' ⟨rfl,rfl⟩
 rw[hix]
 go_wp2_with fail
 go_ret3
 exact⟨rfl,0,rfl⟩
theorem MV(s:ByteArray)(c:UInt8)(i:Nat)(h:Hid ((bL s)[i]? =some c∧∀k:Nat,k<i→(bL s)[k]?≠some c))(hs:s.size≤1048576)(w:World):
  Calls Tryz.prog 85 #[.string s,.string ⟨#[c]⟩] w fun e w' =>e= .returned (.tuple #[.string (s.extract 0 i),.string (s.extract (i+1) s.size),.bool true])∧∃n,w' =w.drewN n:=by
 have hix:Lib.indexByte s.data.toList c=(i:Int):=by
  have hge:=Lib.indexByte_ge s.data.toList c
  by_cases hn:Lib.indexByte s.data.toList c= -1
  ·exact absurd h.out.1 (Lib.indexByte_none hn i)
  ·obtain⟨o,ho⟩:∃o:Nat,Lib.indexByte s.data.toList c=(o:Int):=⟨(Lib.indexByte s.data.toList c).toNat,by omega⟩
   obtain⟨h1,h2⟩:=Lib.indexByte_some ho
   have:o=i:=by
    rcases Nat.lt_trichotomy o i with hlt|e|hgt
    ·exact absurd h1 (h.out.2 o hlt)
    ·exact e
    ·exact absurd h.out.1 (h2 i hgt)
   rw[ho,this]
 have hlt:i<s.size:=by rw[←gF];exact(List.getElem?_eq_some_iff.1 h.out.1).1
 have c1:(0:Int)≤(i:Int):=by omega
 have c2:(i:Int)≤(s.size:Int):=by omega
 have c3:(0:Int)≤(i:Int)+1:=by omega
 have c4:(i:Int)+1≤(s.size:Int):=by omega
 have hw:IntKind.i64.wrap ((i:Int)+1)=((i+1:Nat):Int):=by
  rw[show((i+1:Nat):Int)=(i:Int)+1 by omega]
  exact IntWalk.i64_in _ (by omega)
 have c5:(0:Int)≤((i+1:Nat):Int):=by omega
 have c6:((i+1:Nat):Int)≤(s.size:Int):=by omega
 go_enter Tryz.func85,Tryz.ntmps85
 go_wp2_with fail
 refine(Tryz.stringslite_Index_one s c w).mono ?_
 rintro e w' ⟨rfl,rfl⟩
 rw[hix]
 clear hlt hix
 go_wp2_with fail
 go_region
 go_wp2_with fail
 go_ret3
 exact⟨rfl,1,rfl⟩
theorem FN(s:ByteArray)(c:UInt8)(h:Hid (∀k:Nat,(bL s)[k]?≠some c))(w:World):
  Calls Tryz.prog 43 #[.string s,.string ⟨#[c]⟩] w fun e w' =>e= .returned (.tuple #[.string s,.string ⟨#[]⟩,.bool false])∧∃n,w' =w.drewN n:=by
 go_enter Tryz.func43,Tryz.ntmps43
 go_wp2_with fail
 refine(Q2 s c h _).mono ?_
 rintro e w' ⟨rfl,n,rfl⟩
 go_wp2_with fail
 go_ret3
 exact⟨rfl,n,rfl⟩
theorem wT(s:ByteArray)(c:UInt8)(i:Nat)(h:Hid ((bL s)[i]? =some c∧∀k:Nat,k<i→(bL s)[k]?≠some c))(hs:s.size≤1048576)(w:World):
  Calls Tryz.prog 43 #[.string s,.string ⟨#[c]⟩] w fun e w' =>e= .returned (.tuple #[.string (s.extract 0 i),.string (s.extract (i+1) s.size),.bool true])∧∃n,w' =w.drewN n:=by
 go_enter Tryz.func43,Tryz.ntmps43
 go_wp2_with fail
 refine(MV s c i h hs _).mono ?_
 rintro e w' ⟨rfl,n,rfl⟩
 go_wp2_with fail
 go_ret3
 exact⟨rfl,n,rfl⟩
theorem G3(l:List UInt8)(c:UInt8):(∀k:Nat,l[k]?≠some c)∨∃i,l[i]? =some c∧∀k:Nat,k<i→l[k]?≠some c:=by
 have hge:=Lib.indexByte_ge l c
 by_cases hn:Lib.indexByte l c= -1
 ·exact .inl (Lib.indexByte_none hn)
 ·obtain⟨o,ho⟩:∃o:Nat,Lib.indexByte l c=(o:Int):=⟨(Lib.indexByte l c).toNat,by omega⟩
  exact .inr ⟨o,Lib.indexByte_some ho⟩
theorem TI{t k:Int}{s:ByteArray}:aH.sett t k s=aF k (gM t s):=rfl
theorem vQ{t k:Int}{s:ByteArray}{b:Bool}(hx:Hid (aH.isS t s=true))(hb:Hid (aH.sett t k s=b))(w:World)(hk:0≤k)(hk2:k<256):
  Calls Tryz.prog 65 #[.int .i64 t,.int .i64 k,.string s] w fun e w' =>e= .returned (.bool b)∧Below w.heap.size w w' :=by
 obtain⟨x,hx⟩:=iV.1 hx.out
 have HX:=zH hx
 have hi:=(kM hx).1
 have hlen:=qT t s
 rw[TI,hi] at hb
 rw[hi] at hlen
 have HOK:Hid (∀y∈bE t x,0≤y∧y<256):=by have:=dD (p8 hx);rw[hi] at this;exact this
 obtain⟨l,HL⟩:∃l,Hid (bE t x=l):=⟨_,rfl⟩
 rw[HL.out] at hb hlen HOK
 clear hx hi
 go_enter Tryz.func65,Tryz.ntmps65
 go_wp2_with fail
 refine(zW HX.out _).mono ?_
 rintro e w1 ⟨v,a2,rfl,_,_,ho,hbel⟩
 rw[HL.out] at ho
 obtain⟨A,c,rfl,_,_,_,_⟩:=ho.form
 have HR:=zH (aS.row ho (by omega))
 have HB:=zH hbel
 clear ho hbel
 go_wp2_with fail
 refine(uS hb A l.length c _ rfl hk hk2 HOK.out (by omega) (by exact HR.out.hA)).mono ?_
 rintro e w2 ⟨rfl,n,rfl⟩
 go_wp2_with fail
 go_ret
 exact⟨rfl,aE HB.out _⟩
def jW(t k:Int)(xs:List ByteArray):Bool:=xs.all (fun s=>aH.isS t s&& !aH.sett t k s)&&decide xs.Nodup
theorem AU{t k:Int}{xs:List ByteArray}{x:ByteArray}(h:jW t k xs=true)(h1:aH.isS t x=true)(h2:aH.sett t k x=false)(h3:x∉xs):jW t k (xs++[x])=true:=by
 unfold jW at*
 rw[Bool.and_eq_true,decide_eq_true_eq] at*
 refine⟨?_,?_⟩
 ·rw[List.all_append,h.1];simp[h1,h2]
 ·rw[List.nodup_append]
  exact⟨h.2,by simp,fun a ha b hb e=>by rw[List.mem_singleton] at hb;rw[e,hb] at ha;exact h3 ha⟩
theorem vG{t k:Int}{xs:List ByteArray}{x:ByteArray}(hm:x∈xs)(h:aH.isS t x=false∨aH.sett t k x=true):bC aH t ⟨k,xs⟩=false:=by
 cases hs:bC aH t ⟨k,xs⟩ with
 |false=>rfl
 |true=>
  obtain⟨_,_,_,h4,_⟩:=(cS aH).1 hs
  obtain⟨h5,h6⟩:=h4 x hm
  rcases h with h|h
  ·rw[h] at h5;cases h5
  ·rw[h] at h6;cases h6
theorem DJ{t k:Int}{xs:List ByteArray}{i j:Nat}{x:ByteArray}(hi:xs[i]? =some x)(hj:xs[j]? =some x)(hne:j<i):bC aH t ⟨k,xs⟩=false:=by
 cases hs:bC aH t ⟨k,xs⟩ with
 |false=>rfl
 |true=>
  obtain⟨_,_,_,_,h5⟩:=(cS aH).1 hs
  obtain⟨hi1,hi2⟩:=List.getElem?_eq_some_iff.1 hi
  obtain⟨hj1,hj2⟩:=List.getElem?_eq_some_iff.1 hj
  exact absurd (by show xs[j]=xs[i];rw[hj2,hi2]) (List.pairwise_iff_getElem.1 h5 j i hj1 hi1 hne)
theorem CS{t k:Int}{xs:List ByteArray}(h:jW t k xs=true):bC aH t ⟨k,xs⟩=(aO t k&&decide (k≠0)&&decide (xs.length≤4)):=by
 unfold jW at h
 rw[Bool.and_eq_true] at h
 unfold bC
 show(aO t k&&decide (k≠0)&&decide (xs.length≤4)&&(xs.all fun s=>aH.isS t s&& !aH.sett t k s)&&decide xs.Nodup)=_
 rw[h.1,h.2,Bool.and_true,Bool.and_true]
theorem yJ{t k:Int}{xs:List ByteArray}(h:aO t k=false):bC aH t ⟨k,xs⟩=false:=by
 unfold bC
 show(aO t k&&decide (k≠0)&&_&&_&&_)=false
 rw[h];rfl
theorem Q8(a b:Int)(w:World):Calls Tryz.prog 66 #[.int .i64 a,.int .i64 b] w fun e w' =>(∃v:Int,e= .returned (.int .i64 v))∧∃n,w' =w.drewN n:=by
 go_enter Tryz.func66,Tryz.ntmps66
 go_wp2
 go_loopw [5,6] (fun t i wr=>∃(k:Nat) (v:Int),k≤8∧i= .int .i64 k∧t= .int .i64 v∧∃n,wr=w.drewN n) (fun _ i _=>8-(Go.RowKit.intOf i).toNat)
 case atStart=>exact⟨0,0,by omega,rfl,rfl,0,rfl⟩
 case round=>
  obtain⟨k,v,hk,rfl,rfl,n,rfl⟩:=hrel
  by_cases hlt:k<8
  ·go_wp2
   go_quiet (fail)
   go_wp2
   go_roundw
   case rel=>exact⟨k+1,_,by omega,by go_num,rfl,_,rfl⟩
   case measure=>simp[Go.RowKit.intOf];omega
  ·obtain rfl:k=8:=by omega
   go_wp2
   go_ret
   exact⟨⟨_,rfl⟩,_,rfl⟩
theorem MC(a b:Int)(w:World):Calls Tryz.prog 99 #[.int .i64 a,.int .i64 b] w fun e w' =>(∃v:Bool,e= .returned (.bool v))∧∃n,w' =w.drewN n:=by
 go_enter Tryz.func99,Tryz.ntmps99
 go_wp2_with fail
 refine(Q8 a b _).mono ?_
 rintro e w' ⟨⟨v,rfl⟩,n,rfl⟩
 go_wp2_with fail
 go_ret
 exact⟨⟨_,rfl⟩,_,rfl⟩
theorem D8(A:Option Addr)(n c:Nat)(xs:List Int)(s:Int)(w:World)(hn:n=xs.length)(hl:n≤1048576)(hA:cB .i64 w A xs):
  Calls Tryz.prog 101 #[.slice A n c,.int .i64 s] w fun e w' =>(∃v:Bool,e= .returned (.bool v))∧∃n,w' =w.drewN n:=by
 subst hn
 have HA:=zH hA
 clear hA
 go_enter Tryz.func101,Tryz.ntmps101
 go_wp2
 go_loopw [5] (fun i wr=>∃k:Nat,k≤xs.length∧i= .int .i64 k∧∃n,wr=w.drewN n) (fun i _=>xs.length-(Go.RowKit.intOf i).toNat)
 case atStart=>exact⟨0,Nat.zero_le _,rfl,0,rfl⟩
 case round=>
  obtain⟨k,hk,rfl,n,rfl⟩:=hrel
  by_cases hlt:k<xs.length
  ·obtain⟨b,off,x,rfl,hcell,hx,_⟩:=HA.out.elem hlt
   go_wp2_with fail
   refine(MC s x _).mono ?_
   rintro e w' ⟨⟨v,rfl⟩,m,rfl⟩
   cases v
   ·go_wp2_with fail
    go_roundw
    case rel=>exact⟨k+1,by omega,by go_num,_,rfl⟩
    case measure=>simp[Go.RowKit.intOf];omega
   ·go_wp2_with fail
    go_ret
    exact⟨⟨_,rfl⟩,_,rfl⟩
  ·obtain rfl:k=xs.length:=by omega
   go_wp2
   go_ret
   exact⟨⟨_,rfl⟩,_,rfl⟩
theorem I0{t k:Int}{s:ByteArray}(hx:Hid (aH.isS t s=true))(w:World):
  Calls Tryz.prog 65 #[.int .i64 t,.int .i64 k,.string s] w fun e w' =>∃b:Bool,e= .returned (.bool b)∧(aO t k=true→b=aH.sett t k s)∧Below w.heap.size w w' :=by
 by_cases hk:aO t k=true
 ·obtain⟨_,_,h0,_,h256⟩:=aZ hk
  refine(vQ hx (b:=aH.sett t k s) rfl w h0 h256).mono ?_
  rintro e w' ⟨rfl,hb⟩
  exact⟨_,rfl,fun _=>rfl,hb⟩
 obtain⟨x,hx⟩:=iV.1 hx.out
 have HX:=zH hx
 have hi:=(kM hx).1
 have hlen:=qT t s
 rw[hi] at hlen
 obtain⟨l,HL⟩:∃l,Hid (bE t x=l):=⟨_,rfl⟩
 rw[HL.out] at hlen
 have HK:=zH hk
 clear hx hi hk
 go_enter Tryz.func65,Tryz.ntmps65
 go_wp2_with fail
 refine(zW HX.out _).mono ?_
 rintro e w1 ⟨v,a2,rfl,_,_,ho,hbel⟩
 rw[HL.out] at ho
 obtain⟨A,c,rfl,_,_,_,_⟩:=ho.form
 have HR:=zH (aS.row ho (by omega))
 have HB:=zH hbel
 clear ho hbel
 go_wp2_with fail
 refine(D8 A l.length c l k _ rfl (by omega) (by exact HR.out.hA)).mono ?_
 rintro e w2 ⟨⟨b,rfl⟩,n,rfl⟩
 go_wp2_with fail
 go_ret
 exact⟨b,rfl,fun h=>absurd h HK.out,aE HB.out _⟩
theorem MU{t k:Int}{xs:List ByteArray}{j:Nat}{x:ByteArray}(h:jW t k (xs.take j)=true)(hx:Hid (xs[j]? =some x))(h1:aH.isS t x=true)(h2:aH.sett t k x=false)(h3:∀i,i<j→xs[i]?≠some x):jW t k (xs.take (j+1))=true:=by
 rw[nN hx]
 refine AU h h1 h2 fun hm=> ?_
 obtain⟨i,hi⟩:=List.mem_iff_getElem?.1 hm
 have hlt:i<j:=by
  have:=(List.getElem?_eq_some_iff.1 hi).1
  rw[List.length_take] at this;omega
 rw[List.getElem?_take_of_lt hlt] at hi
 exact h3 i hlt hi
theorem UA(t k:Int)(A:Option Addr)(n c:Nat)(xs:List ByteArray)(w:World)(hn:n=xs.length)(hl:n≤1048576)(hA:a7 w A xs)(hs:∀s∈xs,s.size≤1048576):
  Calls Tryz.prog 49 #[.int .i64 t,.agg #[.int .i64 k,.slice A n c]] w fun e w' =>e= .returned (.bool (bC aH t ⟨k,xs⟩))∧Below w.heap.size w w' :=by
 subst hn
 have HX0:Hid (aD (w.alloc (.cells #[.int .i64 k,.slice A xs.length c] 30)) w.heap.size 30 [.int .i64 k,.slice A xs.length c]):=aD.new w _ _
 have HB0:Hid (Below w.heap.size w (w.alloc (.cells #[.int .i64 k,.slice A xs.length c] 30))):=(Below.refl _ _).alloc (Nat.le_refl _) _
 have HA:=zH hA
 have HS:=zH hs
 have HBS:Hid (∀x∈xs,aH.isS t x=false→bC aH t ⟨k,xs⟩=false):=fun x hx h=>vG hx (.inl h)
 have HBT:Hid (∀x∈xs,(aO t k=true→aH.sett t k x=true)→bC aH t ⟨k,xs⟩=false):=fun x hx h=>by
  by_cases hk:aO t k=true
  ·exact vG hx (.inr (h hk))
  ·exact yJ (by simpa using hk)
 have HBW:Hid (∀(i j:Nat) (x:ByteArray),xs[i]? =some x→xs[j]? =some x→j<i→bC aH t ⟨k,xs⟩=false):=fun i j x h1 h2 h3=>DJ h1 h2 h3
 have HEND:Hid (jW t k xs=true→bC aH t ⟨k,xs⟩=(aO t k&&decide (k≠0)&&decide (xs.length≤4))):=CS
 have HBK:Hid (aO t k=false→bC aH t ⟨k,xs⟩=false):=yJ
 obtain⟨R,HR⟩:∃R,Hid (bC aH t ⟨k,xs⟩=R):=⟨_,rfl⟩
 rw[HR.out] at HBS HBT HBW HEND HBK⊢
 clear hA hs
 go_enter Tryz.func49,Tryz.ntmps49
 go_wp2_with fail
 obtain⟨W0,hW0⟩:∃W,w.alloc (.cells #[.int .i64 k,.slice A xs.length c] 30)=W:=⟨_,rfl⟩
 rw[hW0] at HX0 HB0⊢
 clear hW0
 go_loopw [5] (fun i wr=>∃j:Nat,j≤xs.length∧i= .int .i64 j∧Hid (aO t k=true→jW t k (xs.take j)=true)∧Hid (aD wr w.heap.size 30 [.int .i64 k,.slice A xs.length c])∧Hid (Below w.heap.size w wr)) (fun i _=>xs.length-(Go.RowKit.intOf i).toNat)
 case atStart=>exact⟨0,Nat.zero_le _,rfl,(fun _=>rfl),HX0,HB0⟩
 case round=>
  obtain⟨j,hj,rfl,HG,HX,HB⟩:=hrel
  have hc0:=HX.out.cell (i:=0) (v:= .int .i64 k) rfl
  have hc1:=HX.out.cell (i:=1) (v:= .slice A xs.length c) rfl
  by_cases hlt:j<xs.length
  ·obtain⟨b,off,x,rfl,hcx,hx,hbl⟩:=(HA.out.below HB.out).elem hlt
   have hxs:x.size≤9223372036854775807:=Nat.le_trans (HS.out x (mT hx)) (by omega)
   cases hS:aH.isS t x with
   |false=>
    have HRF:=zH (HBS.out x (mT hx) hS)
    have HIS:Hid (fY t x=false):=hS
    clear hS
    go_wp2_with fail
    refine wp_region_held_drew (S:=fun _=>True) (by kernel_rfl) trivial (fun _=> ?_)
    refine wpAnyH_take (i:=0) (v:= .int .i64 t) rfl (by kernel_rfl) (by kernel_rfl) (by kernel_rfl) (fun _ _ _ h=>h) (Or.inl ⟨by rfl,fun w _=>by rfl⟩) trivial ?_
    simp only[Act.put,zS]
    refine wpAnyH_take (i:=1) (v:= .pointer (some ⟨w.heap.size,1,none⟩)) rfl (by kernel_rfl) (by kernel_rfl) (by kernel_rfl) (fun _ _ _ h=>h) (Or.inl ⟨by rfl,fun w _=>by rfl⟩) trivial ?_
    simp only[Act.put,zS]
    refine wpAnyH_take (i:=3) (v:= .int .i64 j) rfl (by kernel_rfl) (by kernel_rfl) (by kernel_rfl) (fun _ _ _ h=>h) (Or.inl ⟨by rfl,fun w _=>by rfl⟩) trivial ?_
    simp only[Act.put,zS]
    refine wpAnyH_ready (rs:=[2]) (by kernel_rfl) (by simp) ?_
    refine AllReadyH.cons rfl (fun K hK=> ?_) AllReadyH.nil
    go_simp
    try go_simp
    refine hK.out _ _ trivial (fun _=> ?_)
    clear hK K
    try simp only[Act.put,zS]
    refine wpAnyH_ready (rs:=[4]) (by kernel_rfl) (by simp) ?_
    refine AllReadyH.cons rfl (fun K hK=> ?_) AllReadyH.nil
    go_simp
    try go_simp
    refine hK.out _ _ trivial (fun _=> ?_)
    clear hK K
    try simp only[Act.put,zS]
    refine wpAnyH_ready (rs:=[5]) (by kernel_rfl) (by simp) ?_
    refine AllReadyH.cons rfl (fun K hK=> ?_) AllReadyH.nil
    go_simp
    try go_simp
    refine hK.out _ _ trivial (fun _=> ?_)
    clear hK K
    try simp only[Act.put,zS]
    refine wpAnyH_ready (rs:=[6]) (by kernel_rfl) (by simp) ?_
    refine AllReadyH.cons rfl (fun K hK=> ?_) AllReadyH.nil
    go_simp
    go_at_call 63
    refine(fD HIS _ hxs).mono ?_
    rintro e w1 ⟨rfl,hb⟩
    have HB1:=zH (aA (aE HB.out 1) hb)
    clear hb
    try go_simp
    refine hK.out _ _ trivial (fun _=> ?_)
    clear hK K
    try simp only[Act.put,zS]
    refine wpAnyH_take (i:=7) (v:= .bool true) rfl (by kernel_rfl) (by kernel_rfl) (by kernel_rfl) (fun _ _ _ h=>h) (Or.inl ⟨by rfl,fun w _=>by rfl⟩) trivial ?_
    simp only[Act.put,zS]
    refine wpAnyH_take (i:=8) (v:= .bool true) rfl (by kernel_rfl) (by kernel_rfl) (by kernel_rfl) (fun _ _ _ h=>h) (Or.inl ⟨by rfl,fun w _=>by rfl⟩) trivial ?_
    simp only[Act.put,zS]
    refine wpAnyH_take (i:=9) (v:=undef) rfl (by kernel_rfl) (by kernel_rfl) (by kernel_rfl) (fun _ _ _ h=>h) (Or.inr ⟨by rfl,rfl⟩) trivial ?_
    simp only[Act.put,zS]
    refine wpAnyH_take (i:=10) (v:=undef) rfl (by kernel_rfl) (by kernel_rfl) (by kernel_rfl) (fun _ _ _ h=>h) (Or.inr ⟨by rfl,rfl⟩) trivial ?_
    simp only[Act.put,zS]
    refine wpAnyH_take (i:=11) (v:=undef) rfl (by kernel_rfl) (by kernel_rfl) (by kernel_rfl) (fun _ _ _ h=>h) (Or.inr ⟨by rfl,rfl⟩) trivial ?_
    simp only[Act.put,zS]
    refine wpAnyH_take (i:=12) (v:=undef) rfl (by kernel_rfl) (by kernel_rfl) (by kernel_rfl) (fun _ _ _ h=>h) (Or.inr ⟨by rfl,rfl⟩) trivial ?_
    simp only[Act.put,zS]
    refine wpAnyH_take (i:=13) (v:=undef) rfl (by kernel_rfl) (by kernel_rfl) (by kernel_rfl) (fun _ _ _ h=>h) (Or.inr ⟨by rfl,rfl⟩) trivial ?_
    simp only[Act.put,zS]
    refine wpAnyH_take (i:=14) (v:=undef) rfl (by kernel_rfl) (by kernel_rfl) (by kernel_rfl) (fun _ _ _ h=>h) (Or.inr ⟨by rfl,rfl⟩) trivial ?_
    simp only[Act.put,zS]
    refine wpAnyH_take (i:=15) (v:=undef) rfl (by kernel_rfl) (by kernel_rfl) (by kernel_rfl) (fun _ _ _ h=>h) (Or.inr ⟨by rfl,rfl⟩) trivial ?_
    simp only[Act.put,zS]
    refine wpAnyH_take (i:=16) (v:=undef) rfl (by kernel_rfl) (by kernel_rfl) (by kernel_rfl) (fun _ _ _ h=>h) (Or.inr ⟨by rfl,rfl⟩) trivial ?_
    simp only[Act.put,zS]
    refine wpAnyH_take (i:=17) (v:=undef) rfl (by kernel_rfl) (by kernel_rfl) (by kernel_rfl) (fun _ _ _ h=>h) (Or.inr ⟨by rfl,rfl⟩) trivial ?_
    simp only[Act.put,zS]
    refine wpAnyH_take (i:=18) (v:= .bool true) rfl (by kernel_rfl) (by kernel_rfl) (by kernel_rfl) (fun _ _ _ h=>h) (Or.inl ⟨by rfl,fun w _=>by rfl⟩) trivial ?_
    simp only[Act.put,zS]
    refine wpAnyH_done (by kernel_rfl) ?_ _
    go_wp2_with fail
    go_ret
    exact⟨by rw[HRF.out]<;>rfl,HB1.out⟩
   |true=>
    have HS1:=zH hS
    have HIS:Hid (fY t x=true):=hS
    have HST:=zH (HBT.out x (mT hx))
    have HSE:Hid (∀W:World,Calls Tryz.prog 65 #[.int .i64 t,.int .i64 k,.string x] W fun e w' =>∃b:Bool,e= .returned (.bool b)∧(aO t k=true→b=aH.sett t k x)∧Below W.heap.size W w'):=fun W=>I0 HS1 W
    clear hS
    go_wp2_with fail
    go_region_held3 (fun w' =>w'.cell? ⟨w.heap.size,0,none⟩=some (.int .i64 k)∧w'.cell? ⟨w.heap.size,1,none⟩=some (.slice (some ⟨b,off,none⟩) xs.length c)∧w'.cell? ⟨b,off+j,none⟩=some (.string x))
     (first|go_keep|exact⟨hc0,hc1,hcx⟩|exact HK1.out|exact HK2.out)
     (first
      |(go_at_call 63;refine(fD HIS _ hxs).mono ?_;rintro e w1 ⟨rfl,hb⟩;have HX1:=zH (aD.below (by exact aD.drew HX.out) hb);have HK1:=zH (And.intro (HX1.out.cell (i:=0) (v:= .int .i64 k) rfl) (And.intro (HX1.out.cell (i:=1) (v:= .slice (some ⟨b,off,none⟩) xs.length c) rfl) (((Below.cell hb (p:=⟨b,off+j,none⟩)) hbl.out).trans hcx)));have HB1:=zH (aA (aE HB.out 1) hb);have hbl1:=zH (Nat.lt_of_lt_of_le hbl.out hb.size);clear hb)
      |(go_at_call 65;refine(HSE.out _).mono ?_;rintro e w2 ⟨v,rfl,hv,hb⟩;have HX2:=zH (HX1.out.below hb);have HK2:=zH (And.intro (HX2.out.cell (i:=0) (v:= .int .i64 k) rfl) (And.intro (HX2.out.cell (i:=1) (v:= .slice (some ⟨b,off,none⟩) xs.length c) rfl) (((Below.cell hb (p:=⟨b,off+j,none⟩)) hbl1.out).trans HK1.out.2.2)));have HB2:=zH (aA HB1.out hb);have HV:=zH hv;clear hb hv))
    all_goals
     cases v
     ·obtain⟨hd0,hd1,hd2⟩:=HK2.out
      clear hc0 hc1 hcx
      go_wp2_with fail
      go_loopw [6] (fun i wr=>∃m:Nat,m≤j∧i= .int .i64 m∧Hid (∀i,i<m→xs[i]?≠some x)∧∃n,wr=w2.drewN n) (fun i _=>j-(Go.RowKit.intOf i).toNat)
      case atStart=>exact⟨0,Nat.zero_le _,rfl,(fun i h=>by omega),0,rfl⟩
      case round=>
       obtain⟨m,hm,rfl,HNO,n,rfl⟩:=hrel
       by_cases hml:m<j
       ·have hmx:m<xs.length:=by omega
        obtain⟨b2,off2,y,hA2,hcy,hy,_⟩:=(HA.out.below HB2.out).elem hmx
        cases hA2
        by_cases hxy:y=x
        ·subst hxy
         have HRF:=zH (HBW.out j m y hx.out hy.out hml)
         have he:=sW y
         go_wp2_with fail
         go_quiet (fail)
         go_wp2_with fail
         go_ret
         exact⟨by rw[HRF.out]<;>rfl,aE (aE HB2.out _) _⟩
        ·have he:=lT hxy
         have HNN:Hid (∀i,i<m+1→xs[i]?≠some x):=by
          intro i hi e
          by_cases h:i=m
          ·subst h
           rw[hy.out] at e;exact hxy (Option.some.inj e)
          ·exact HNO.out i (by omega) e
         clear hxy
         go_wp2_with fail
         go_quiet (fail)
         go_wp2_with fail
         go_roundw
         case rel=>exact⟨m+1,by omega,by go_num,HNN,_,rfl⟩
         case measure=>simp[Go.RowKit.intOf];omega
       ·obtain rfl:m=j:=by omega
        have HGN:Hid (aO t k=true→jW t k (xs.take (m+1))=true):=fun h=>MU (HG.out h) hx HS1.out (HV.out h).symm HNO.out
        go_wp2_with fail
        go_roundw
        case rel=>exact⟨m+1,by omega,by go_num,HGN,aD.drewN HX2.out _,aE HB2.out _⟩
        case measure=>simp[Go.RowKit.intOf];omega
     ·have HRF:=zH (HST.out fun h=>(HV.out h).symm)
      clear hc0 hc1 hcx
      go_wp2_with fail
      go_ret
      exact⟨by rw[HRF.out]<;>rfl,HB2.out⟩
  ·obtain rfl:j=xs.length:=by omega
   rw[List.take_length] at HG
   cases hset:aO t k with
   |false=>
    have HRF:=zH (HBK.out hset)
    have HSO:=zH hset
    clear hset
    go_wp2_with (go_at_call 89;refine(jD HSO _).mono ?_;rintro e w1 ⟨rfl,rfl⟩)
    go_ret
    exact⟨by rw[HRF.out]<;>rfl,HB.out⟩
   |true=>
    have HRF:=zH (HEND.out (HG.out hset))
    rw[hset,Bool.true_and] at HRF
    have HSO:=zH hset
    clear hset
    by_cases hk0:k=0
    ·subst hk0
     go_wp2_with (go_at_call 89;refine(jD HSO _).mono ?_;rintro e w1 ⟨rfl,rfl⟩)
     go_ret
     exact⟨by rw[HRF.out]<;>rfl,HB.out⟩
    ·have hk1:(k != 0)=true:=by rw[bne_iff_ne];exact hk0
     have hk2:(k==0)=false:=by rw[beq_eq_false_iff_ne];exact hk0
     have HN4:Hid (decide ((xs.length:Int)≤4)=decide (xs.length≤4)):=by unfold Hid;rw[Bool.eq_iff_iff,decide_eq_true_iff,decide_eq_true_iff];omega
     rw[decide_eq_true hk0,Bool.true_and] at HRF
     clear hk0
     go_wp2_with (go_at_call 89;refine(jD HSO _).mono ?_;rintro e w1 ⟨rfl,rfl⟩)
     go_ret
     exact⟨aM (by rw[HRF.out,←HN4.out]),HB.out⟩
end Go.Proofs.YtfhjcacfchkdpaaGreatDoor
