/-
  Chapter 9, by the door: the law of ReadJournal.
-/
import Derived.Test.YtfhjcacfchkdpaaGreatDoorJouA
import Derived.Deep.Cut
import Derived.Deep.CutRange
import Derived.Deep.CutBlock
import Derived.Deep.RegionHeld3
import Derived.IntWalk
import Derived.Shelf.Strings.Builder1
import Derived.Shelf.Small.Bits
import Derived.Shelf.Small.Strs
import Derived.Shelf.Small.Wraps
import Derived.Shelf.Strings.BuilderF
import Derived.Shelf.Strings.BuilderK
import Derived.Shelf.Strconv.Itoa0
import Derived.Shelf.Strconv.Itoa1
import Derived.Shelf.LaysM
import Derived.Shelf.Strconv.Itoa2
import Derived.Shelf.Strconv.Itoa3
import Derived.Shelf.Strings.Search1
import Derived.Shelf.Strings.Search2
import Derived.Shelf.Strings.Cut
import Derived.Shelf.Strings.Shaped
import Derived.Shelf.Sort.Plain
import Derived.Shelf.Strings.Prefix
import Derived.Shelf.Strings.BuilderCap
import Derived.Shelf.Slices.Turned
import Derived.Ground.Names2Prog
import Derived.Shelf.Slices.Clone
import Derived.Shelf.Slices.SearchI
import Derived.Shelf.Slices.In.SortNone
import Derived.Test.YtfhjcacfchkdpaaGreatDoorU29
import Derived.Test.YtfhjcacfchkdpaaGreatDoorU48
set_option maxRecDepth 100000
set_option maxHeartbeats 32000000
namespace Go.Proofs
open Go.Shelf
def Tryz.lays169_ren:Go.Shelf.Ren:=⟨fun|169=>56|n=>n,fun|70=>87|9=>9|0=>0|72=>89|37=>22|127=>128|3=>3|5=>5|n=>n,fun|n=>n⟩
theorem Tryz.lays169:Go.Proofs.Lays.n169 Tryz.prog Tryz.lays169_ren:={
 mixed:=by kernel_rfl
 f169:=Tryz.func56.trans (congrArg some (by kernel_rfl))
 t0:=Tryz.underlying0
 a0:=Tryz.isAgg0
 z0:=Tryz.sizeOf0
 v0:=Tryz.zeroValue0
 t3:=Tryz.underlying3
 a3:=Tryz.isAgg3
 z3:=Tryz.sizeOf3
 v3:=Tryz.zeroValue3
 t9:=Tryz.underlying9
 a9:=Tryz.isAgg9
 z9:=Tryz.sizeOf9
 v9:=Tryz.zeroValue9
 t37:=Tryz.underlying22
 a37:=Tryz.isAgg22
 z37:=Tryz.sizeOf22
 v37:=Tryz.zeroValue22
 t70:=Tryz.underlying87
 a70:=Tryz.isAgg87
 z70:=Tryz.sizeOf87
 v70:=Tryz.zeroValue87
 t72:=Tryz.underlying89
 a72:=Tryz.isAgg89
 z72:=Tryz.sizeOf89
 v72:=Tryz.zeroValue89
 t127:=Tryz.underlying128
 a127:=Tryz.isAgg128
 z127:=Tryz.sizeOf128
 v127:=Tryz.zeroValue128}
theorem Tryz.Builder_Extra_169:Builder.Extra Tryz.prog Tryz.lays169_ren:={
 sizeBuilder:=by kernel_rfl
 liesBuilder:=by kernel_rfl
 t5:=Tryz.underlying5
 a5:=Tryz.isAgg5
 z5:=Tryz.sizeOf5
 v5:=Tryz.zeroValue5
 infoByte:=by kernel_rfl
 cellsByte:=by kernel_rfl
 sizeByte:=by kernel_rfl
 neB5:=by decide}
open Go.RowKit in
theorem Tryz.Builder_String_any(B b:Nat)(l:List UInt8)(w:World)(h:Lib.IsBuilder 89 5 B b (Lib.byteCells l) w)(hBw:B≤w.heap.size):
  Calls Tryz.prog 56 #[.pointer (some ⟨b,0,none⟩)] w fun e w' =>e= .returned (.string ⟨l.toArray⟩)∧Below B w w' :=Any.Builder_String_any Tryz.lays169 Tryz.Builder_Extra_169 B b l w h hBw
end Go.Proofs
namespace Go.Proofs.YtfhjcacfchkdpaaGreatDoor
open Go.RowKit
theorem lAlive(w:World):Calls Tryz.prog 19 #[] w fun e w' =>e= .returned (.bool true)∧w=w' :=by
 go_enter Tryz.func19,Tryz.ntmps19
 go_wp2_with fail
 refine(eE _ _).mono ?_
 rintro e w' ⟨rfl,rfl⟩
 simp only[eP]
 go_wp2_with fail
 refine(eE _ _).mono ?_
 rintro e w' ⟨rfl,rfl⟩
 simp only[eP]
 go_wp2_with fail
 go_ret
 exact⟨rfl,rfl⟩
theorem bld_size:(Tryz.prog.info? 89).map (·.size)=some 2:=by kernel_rfl
theorem bld_lies:liesAt Tryz.prog Tryz.prog.depth 89 (2 / Tryz.prog.cellsOf 89) 0 89 1=true:=by kernel_rfl
theorem byte_info:(Tryz.prog.info? 5).map (fun i=>(i.zero,i.size,i.bytes))=some (some (.int .u8 0),1,1):=by kernel_rfl
theorem iCopyCheckU(b:Nat)(w:World)(h0:w.cell? ⟨b,0,none⟩=some (.pointer (some ⟨b,0,none⟩))):
  Calls Tryz.prog 95 #[.pointer (some ⟨b,0,none⟩)] w fun e w' =>e= .returned (.tuple #[])∧w' =w:=by
 obtain⟨j,hj,_⟩:=Option.map_eq_some_iff.1 bld_size
 go_enter Tryz.func95,Tryz.ntmps95
 go_wp2
 rw[Lib.run_neq_ptr_same w _ Tryz.underlying87 hj]
 go_wp2
 go_end0
 exact⟨rfl,rfl⟩
theorem iCopyCheckF(b:Nat)(w:World)(h0:w.cell? ⟨b,0,none⟩=some (.pointer none))(hsh:w.shape? b=some (89,2))(hfz:w.frozen? ⟨b,0,none⟩=false):
  Calls Tryz.prog 95 #[.pointer (some ⟨b,0,none⟩)] w fun e w' =>e= .returned (.tuple #[])∧w' =w.setCell ⟨b,0,none⟩ (.pointer (some ⟨b,0,none⟩)):=by
 obtain⟨j,hj,hjs⟩:=Option.map_eq_some_iff.1 bld_size
 go_enter Tryz.func95,Tryz.ntmps95
 go_wp2
 rw[Lib.run_to_unsafe w ⟨b,0,none⟩ Tryz.underlying87 Tryz.underlying146 hj (by rw[hjs];decide) hsh (Nat.zero_lt_succ 1)]
 simp only[Result.andThen]
 rw[Oper.upon_value]
 go_wp2
 rw[run_callFunc_extern (by exact Tryz.func122) (by kernel_rfl) (by kernel_rfl) (by kernel_rfl) (e:=Extern.AbiNoEscape.same) (by kernel_rfl)]
 rw[Lib.run_noEscape]
 simp only[Result.andThen]
 rw[Oper.upon_value]
 go_wp2
 rw[Lib.run_from_unsafe w ⟨b,0,none⟩ Tryz.underlying146 Tryz.underlying87 hj hsh bld_lies]
 simp only[Result.andThen]
 rw[Oper.upon_value]
 go_wp2
 go_end0
 exact⟨rfl,rfl⟩
theorem iCopyCheck(B b:Nat)(bs:List Value)(w:World)(h:WV B b bs w):
  Calls Tryz.prog 95 #[.pointer (some ⟨b,0,none⟩)] w fun e w' =>e= .returned (.tuple #[])∧R9 B b (.pointer (some ⟨b,0,none⟩)) bs w'∧Below B w w' :=by
 rcases h with h|h
 ·refine(iCopyCheckF b w h.cell0 h.shape h.frozen0).mono ?_
  rintro e w' ⟨rfl,rfl⟩
  exact⟨rfl,h.used _,(Below.refl B w).setCell (p:=⟨b,0,none⟩) h.1 _⟩
 ·refine(iCopyCheckU b w h.cell0).mono ?_
  rintro e w' ⟨rfl,rfl⟩
  exact⟨rfl,h,Below.refl B _⟩
theorem iWriteString(B b:Nat)(bs:List Value)(s:ByteArray)(w:World)(h:WV B b bs w)(hlen:bs.length+s.size≤140737488355328)(hBw:B≤w.heap.size):
  Calls Tryz.prog 55 #[.pointer (some ⟨b,0,none⟩),.string s] w fun e w' =>e= .returned (.tuple #[.int .i64 s.size,.nilIface])∧R9 B b (.pointer (some ⟨b,0,none⟩)) (bs++Lib.strCells s) w'∧Below B w w' :=by
 obtain⟨i0,hi,hz0,hz1,hz2⟩:=info_parts byte_info
 go_enter Tryz.func55,Tryz.ntmps55
 go_wp2_with fail
 refine(iCopyCheck B b bs _ h).mono ?_
 rintro e w1 ⟨rfl,h1,hb1⟩
 obtain⟨hB,v,hbk,hown,hne⟩:=h1
 have c0:w1.cell? ⟨b,0,none⟩=some (.pointer (some ⟨b,0,none⟩)):=by rw[Lib.cell_of_heap hbk];rfl
 have c1:w1.cell? ⟨b,1,none⟩=some v:=by rw[Lib.cell_of_heap hbk];rfl
 go_wp2_with (at_builtin;refine Lib.wpList_append_own_string _ rfl _ _ 22 9 rfl B 5 i0 Tryz.underlying22 Tryz.underlying9 hi hz0 hz1 hz2 _ _ _ rfl hown s rfl ?c3 ?c4 ?c5 ?_)
 case c3=>unfold maxLen;omega
 case c4=>omega
 case c5=>have:=hb1.size;omega
 intro v' w2 hown' hgrow _
 have hlt:b<w1.heap.size:=(Array.getElem?_eq_some_iff.1 hbk).1
 have hb2:w2.heap[b]? =some (.cells #[.pointer (some ⟨b,0,none⟩),v] 89 (0,0)):=by
  rw[hgrow.block b hlt (fun e=>hne e.symm)]
  exact hbk
 have d0:w2.cell? ⟨b,0,none⟩=some (.pointer (some ⟨b,0,none⟩)):=by rw[Lib.cell_of_heap hb2];rfl
 have d1:w2.cell? ⟨b,1,none⟩=some v:=by rw[Lib.cell_of_heap hb2];rfl
 have f1:w2.frozen? ⟨b,1,none⟩=false:=Lib.frozen_of_heap hb2 1
 obtain⟨ao,n',cap,rfl⟩:∃ao n' cap,v' = .slice ao n' cap:=by
  rcases hown'.2 with⟨hv,_⟩|⟨g,cap,cur,hv,_⟩
  ·exact⟨_,_,_,hv⟩
  ·exact⟨_,_,_,hv⟩
 go_wp2
 go_ret2
 refine⟨rfl,?_,?_⟩
 ·exact Lib.BuilderAt.put (T:=89) (e:=5) hB hb2 (bs' :=bs++Lib.strCells s) (by simpa [Lib.strCells_length] using hown') (by decide)
 ·exact(hb1.grown hgrow (by have:=hb1.size;omega) (fun k hk=>(hown.lt k hk).1)).setCell (p:=⟨b,1,none⟩) hB _
theorem iWrite{B b:Nat}{l:List UInt8}{w:World}(s:ByteArray)(h:NS B b l w)(hlen:l.length+s.size≤140737488355328)(hBw:B≤w.heap.size):
  Calls Tryz.prog 55 #[.pointer (some ⟨b,0,none⟩),.string s] w fun e w' =>e= .returned (.tuple #[.int .i64 s.size,.nilIface])∧NS B b (l++s.data.toList) w'∧Below B w w' :=by
 refine(iWriteString B b (Lib.byteCells l) s w h (by rw[Lib.byteCells_length];exact hlen) hBw).mono ?_
 rintro e w' ⟨rfl,h1,h2⟩
 refine⟨rfl,Or.inr ?_,h2⟩
 have:Lib.byteCells (l++s.data.toList)=Lib.byteCells l++Lib.strCells s:=by simp[Lib.byteCells,Lib.strCells]
 rw[this];exact h1
theorem iString{B b:Nat}{l:List UInt8}{w:World}(h:NS B b l w)(hBw:B≤w.heap.size):
  Calls Tryz.prog 56 #[.pointer (some ⟨b,0,none⟩)] w fun e w' =>e= .returned (.string ⟨l.toArray⟩)∧Below B w w' :=Tryz.Builder_String_any B b l w h hBw
theorem append_bL(l:List UInt8)(s u:ByteArray):l++(s++u).data.toList=l++(bL s++bL u):=by
 show l++bL (s++u)=_
 rw[lD]
theorem iJournalText(A:Option Addr)(n c:Nat)(ds:List bK)(w:World)(ha:sA w A n c ds)(hs:∀d∈ds,d.2.size≤1048576):
  Calls Tryz.prog 17 #[.slice A n c] w fun e w' =>e= .returned (.string (jourB ds))∧Below w.heap.size w w' :=by
 have HA:=zH ha
 obtain rfl:=ha.hn
 have hl:=ha.hl
 have HS:=zH hs
 have HSZ:=zH (lines_size hs)
 have HNO:Hid (∀d∈ds,b8 d=⟨#[]⟩→jourB ds=⟨#[]⟩):=fun d hd he=>jour_none hd he
 have HEND:=zH (jour_end (ds:=ds))
 obtain⟨J,HJ⟩:∃J,Hid (jourB ds=J):=⟨_,rfl⟩
 rw[HJ.out] at HNO HEND⊢
 have HBD:Hid (NS w.heap.size w.heap.size [] (w.alloc (.cells #[.pointer none,.slice none 0 0] 89))):=NS.new w
 clear ha hs
 go_enter Tryz.func17,Tryz.ntmps17
 go_wp2_with fail
 go_loopw [9] (fun i wr=>∃k:Nat,k≤ds.length∧i= .int .i64 k∧Hid (CM ds k)∧Hid (NS w.heap.size w.heap.size (linesB (ds.take k)) wr)∧Hid (Below w.heap.size w wr)) (fun i _=>ds.length-(Go.RowKit.intOf i).toNat)
 case atStart=>exact⟨0,Nat.zero_le _,rfl,(fun j d h=>by omega),HBD,(Below.refl _ _).alloc (Nat.le_refl _) _⟩
 case round=>
  obtain⟨k,hk,rfl,hT,hBl,hB⟩:=hrel
  by_cases hlt:k<ds.length
  ·obtain⟨b,off,f,g,rfl,hc0,hc1,hx,hbl⟩:=(HA.out.hA.below hB.out).elem hlt
   have hgs:g.size≤1048576:=HS.out (f,g) (vU hx)
   have hds:=deed_size (f,g)
   have HD:Hid (∀W:World,Calls Tryz.prog 15 #[.agg #[.int .i64 f,.string g]] W fun e w' =>e= .returned (.string (b8 (f,g)))∧Below W.heap.size W w'):=fun W=>wS f g W hgs
   have HNX:Hid (b8 (f,g)≠⟨#[]⟩→CM ds (k+1)):=fun h=>hT.out.next hx h
   have HL:=zH (linesB_snoc hx)
   have HNK:=zH (HNO.out (f,g) (vU hx))
   obtain⟨x,hxe⟩:∃x,b8 (f,g)=x:=⟨_,rfl⟩
   rw[hxe] at HD HNX HL HNK hds
   clear hxe
   have hxz:x.size≤1048581:=Nat.le_trans hds (by show g.size+5≤_;omega)
   clear hds
   by_cases he:x=⟨#[]⟩
   ·have HJE:=zH (HNK.out he)
    subst he
    go_wp2_with (go_at_call 15;refine(HD.out _).mono ?_;rintro e w2 ⟨rfl,hb⟩;have hB2:=zH (aA (hB.out.alloc hB.out.size _) hb);clear hb hc0 hc1)
    go_ret
    exact⟨by rw[HJE.out]<;>rfl,hB2.out⟩
   ·have HN2:=zH (HNX.out he)
    obtain⟨hn1,hn2,hn3,hn4,hn5⟩:=vJ he
    have hz:(9223372036854775807<x.size+1)=False:=by simp;omega
    have HSK:=zH (HSZ.out k hk)
    clear he
    go_wp2_with (first
     |(go_at_call 15;refine(HD.out _).mono ?_;rintro e w2 ⟨rfl,hb⟩;have hB2:=zH (aA (hB.out.alloc hB.out.size _) hb);have hBl2:=zH ((hBl.out.below ((Below.refl _ _).alloc (Nat.le_refl _) _)).below hb);clear hb hc0 hc1)
     |(go_at_call 55;refine(iWrite _ hBl2.out (by have:=HSK.out;have:(x++⟨#[10]⟩:ByteArray).size=x.size+1:=ByteArray.size_append;omega) hB2.out.size).mono ?_;rintro e w3 ⟨rfl,hBl3,hb⟩;have hB3:=zH (hB2.out.trans hb);have HB3:=zH hBl3;clear hb hBl3))
    go_roundw
    case rel=>exact⟨k+1,by omega,by go_num,HN2,(by unfold Hid;rw[HL.out];have:=HB3.out;rw[append_bL] at this;exact this),hB3⟩
    case measure=>simp[Go.RowKit.intOf];omega
  ·obtain rfl:k=ds.length:=by omega
   have HJE:=zH (HEND.out hT.out)
   have HBE:=zH hBl.out
   rw[List.take_length] at HBE
   go_wp2_with (go_at_call 56;refine(iString HBE.out hB.out.size).mono ?_;rintro e w2 ⟨rfl,hb⟩;have hB2:=zH (hB.out.trans hb);clear hb)
   go_ret
   exact⟨by rw[HJE.out]<;>rfl,hB2.out⟩
theorem lSameDeeds(A B:Option Addr)(n m c d:Nat)(ds:List bK)(w:World)(ha:sA w A n c ds)(hb:sA w B m d ds):
  Calls Tryz.prog 11 #[.slice A n c,.slice B m d] w fun e w' =>e= .returned (.bool true)∧∃n,w' =w.drewN n:=by
 have HA:=zH ha
 have HB:=zH hb
 obtain rfl:=ha.hn
 obtain rfl:=hb.hn
 have hl:=ha.hl
 have hd:((ds.length:Int) != (ds.length:Int))=false:=by simp
 clear ha hb
 go_enter Tryz.func11,Tryz.ntmps11
 go_wp2_with fail
 go_loopw [5] (fun i wr=>∃k:Nat,k≤ds.length∧i= .int .i64 k∧∃n,wr=w.drewN n) (fun i _=>ds.length-(Go.RowKit.intOf i).toNat)
 case atStart=>exact⟨0,Nat.zero_le _,rfl,0,rfl⟩
 case round=>
  obtain⟨k,hk,rfl,n,rfl⟩:=hrel
  by_cases hlt:k<ds.length
  ·obtain⟨b,off,f,g,rfl,hc0,hc1,hx,_⟩:=HA.out.hA.elem hlt
   obtain⟨b',off',f',g',rfl,hc0',hc1',hx',_⟩:=HB.out.hA.elem hlt
   have e:=hx.out.symm.trans hx'.out
   simp only[Option.some.injEq,Prod.mk.injEq] at e
   obtain⟨rfl,rfl⟩:=e
   have hd2:=sW g
   go_wp2_with fail
   go_quiet (fail)
   go_wp2_with fail
   go_roundw
   case rel=>exact⟨k+1,by omega,by go_num,_,rfl⟩
   case measure=>simp[Go.RowKit.intOf];omega
  ·obtain rfl:k=ds.length:=by omega
   go_wp2_with fail
   go_ret
   exact⟨rfl,_,rfl⟩
theorem runTo_small(T:aL)(ds:List bK):cD (xM T ds).1:=by
 by_cases h:dP T=true∧ds.length≤40
 ·rw[RO h.1 h.2];exact lQ (UH T ds h.1)
 ·rw[JW h];exact⟨by decide,by decide,(fun s hs=>by cases hs),(fun x hx=>by cases hx)⟩
theorem i7.take{w:World}{L:Option Addr}{ds:List bK}(h:i7 w L ds)(j:Nat):i7 w L (ds.take j):=by
 intro hn
 rw[List.length_take] at hn
 obtain⟨b,off,rfl,hb,hc⟩:=h (by omega)
 refine⟨b,off,rfl,hb,fun i x hx=>hc i x ?_⟩
 rw[List.getElem?_take] at hx
 split at hx
 ·exact hx
 ·cases hx
theorem rowJ_take{w:World}{L:Option Addr}{lc:Nat}{ds xs:List bK}(h:sA w L ds.length lc ds)(hx:ds.take xs.length=xs)(hl:xs.length≤ds.length):sA w L xs.length lc xs:=
 ⟨rfl,by have:=h.hl;omega,by have:=h.hc;omega,h.hm,by have:=h.hA.take xs.length;rw[hx] at this;exact this⟩
theorem iReadJ{s:ByteArray}{ds:List bK}{r:Nat}(h:Hid (xW s=(ds,r)))(hs:s.size≤600)(w:World):
  Calls Tryz.prog 9 #[.string s] w fun e w' =>∃A c,e= .returned (.tuple #[.slice A ds.length c,.int .i64 (r:Int)])∧sA w' A ds.length c ds∧Below w.heap.size w w' :=by
 have hl:=rj_len s
 refine(VN s w (by omega)).mono ?_
 rintro e w' ⟨v,rfl,ho,hb⟩
 rw[h.out] at ho hl⊢
 obtain⟨A,c,rfl,_⟩:=ho.form
 exact⟨A,c,rfl,bU.row ho (by simp only at hl;omega),hb⟩
theorem sReadJ{s:ByteArray}{ds:List bK}{r:Nat}(h:Hid (xW s=(ds,r)))(hs:s.size≤600)(w:World):
  Calls Tryz.prog 10 #[.string s] w fun e w' =>∃A c,e= .returned (.tuple #[.slice A ds.length c,.int .i64 (r:Int)])∧sA w' A ds.length c ds∧Below w.heap.size w w' :=by
 have hl:=rj_len s
 refine(U7 s w (by omega)).mono ?_
 rintro e w' ⟨v,rfl,ho,hb⟩
 rw[h.out] at ho hl⊢
 obtain⟨A,c,rfl,_⟩:=ho.form
 exact⟨A,c,rfl,bU.row ho (by simp only at hl;omega),hb⟩
theorem lSameDeeds_b(A B:Option Addr)(c d:Nat)(ds:List bK)(w:World)(ha:sA w A ds.length c ds)(hb:sA w B ds.length d ds):
  Calls Tryz.prog 11 #[.slice A ds.length c,.slice B ds.length d] w fun e w' =>e= .returned (.bool true)∧Below w.heap.size w w' :=by
 refine(lSameDeeds A B _ _ c d ds w ha hb).mono ?_
 rintro e w' ⟨rfl,q,rfl⟩
 exact⟨rfl,aE (Below.refl _ _) q⟩
def LineJ(X:aL)(a:List UInt8)(w:World)(e:Ending)(w' :World):Prop:=∃A n c B m d,e= .returned (.tuple #[.agg #[.int .i64 X.things,.int .i64 X.now.known,.slice A n c,.slice B m d],.string (cJ a)])∧dL w' w.heap.size X A n c B m d∧Below w.heap.size w w'
theorem iTalkLine_j{T X:aL}{A B:Option Addr}{n c m d:Nat}{s:ByteArray}{a:List UInt8}{w:World}(h:Hid (kS T s=(X,a)))(hok:dP T=true)(hT:bN w T A n c B m d)(hx:s.size≤1048576)(hg:fA w):
  Calls Tryz.prog 14 #[.agg #[.int .i64 T.things,.int .i64 T.now.known,.slice A n c,.slice B m d],.string s] w (LineJ X a w):=by
 have:=N3 T A B n c m d s w hT (lQ hok) hx hg
 rw[uE hok,h.out] at this
 refine this.mono ?_
 rintro e w' ⟨o,p,vs,rfl,ho,hp,_,hb⟩
 obtain⟨A',c',B',d',rfl,rfl,hin⟩:=qO ho hp
 exact⟨A',_,c',B',_,d',rfl,hin,hb⟩
def RunJ(X:aL)(w:World)(e:Ending)(w' :World):Prop:=∃A n c B m d N,e= .returned (.tuple #[.agg #[.int .i64 X.things,.int .i64 X.now.known,.slice A n c,.slice B m d],.int .i64 N])∧dL w' w.heap.size X A n c B m d∧Below w.heap.size w w'
theorem iTalkRun_j{T X:aL}{A B L:Option Addr}{n c m d lc:Nat}{ds:List bK}{w:World}(h:Hid ((xM T ds).1=X))(hT:bN w T A n c B m d)(hs:cD T)(hL:sA w L ds.length lc ds)(hds:∀x∈ds,x.2.size≤1048576):
  Calls Tryz.prog 16 #[.agg #[.int .i64 T.things,.int .i64 T.now.known,.slice A n c,.slice B m d],.slice L ds.length lc] w (RunJ X w):=by
 have:=X4 T A B L n c m d ds.length lc ds w hT hs hL hds
 rw[h.out] at this
 refine this.mono ?_
 rintro e w' ⟨o,p,vs,rfl,ho,hp,_,hb⟩
 obtain⟨A',c',B',d',rfl,rfl,hin⟩:=qO ho hp
 exact⟨A',_,c',B',_,d',_,rfl,hin,hb⟩
theorem dx_exc{w w1:World}{h:Nat}{T:aL}{A B L:Option Addr}{n c m d lc:Nat}{ds:List bK}(hx:DX w h T A n c B m d)(hr:sA w L ds.length lc ds)(hn:∀k,k<w.heap.size→w1.heap[k]? =w.heap[k]?)(hs:w.heap.size≤w1.heap.size):DX w1 h T A n c B m d∧sA w1 L ds.length lc ds:=by
 refine⟨⟨(hn h hx.x.lt).trans hx.x,NC hx.t hs hn⟩,⟨hr.hn,hr.hl,hr.hc,hr.hm,fun h0=> ?_⟩⟩
 obtain⟨b,off,e,hlt,hc⟩:=hr.hA h0
 exact⟨b,off,e,Nat.lt_of_lt_of_le hlt hs,fun i x hx=>⟨(World.cell?_of_block (a:=⟨b,off+i*2,none⟩) (hn b hlt)).trans (hc i x hx).1,(World.cell?_of_block (a:=⟨b,off+i*2+1,none⟩) (hn b hlt)).trans (hc i x hx).2⟩⟩
theorem in_exc{h lo:Nat}{wx:World}{X:aL}{A B:Option Addr}{n c m d:Nat}{p q r s:Value}(hi:dL wx lo X A n c B m d)(hh:h<lo):∀W,fI h ((((wx.setCell ⟨h,0,none⟩ p).setCell ⟨h,1,none⟩ q).setCell ⟨h,2,none⟩ r).setCell ⟨h,3,none⟩ s) W→bN W X A n c B m d:=fun W hW=>by
 have hE:=fI.set4 h wx p q r s
 exact hi W ⟨Nat.le_trans hE.1 hW.1,fun k h1 h2=>(hW.2 k (Nat.lt_of_lt_of_le h2 hE.1) (by omega)).trans (hE.2 k h2 (by omega))⟩
theorem al_genJ{B:Nat}{W0 wx:World}(h:Below B W0 wx)(hB:B≤wx.heap.size):∃wz,wx.alloc (.cells #[.int .i64 0,.int .i64 0,.slice none 0 0,.slice none 0 0] 33)=wz∧Hid (aD wz wx.heap.size 33 [.int .i64 0,.int .i64 0,.slice none 0 0,.slice none 0 0])∧Hid (B≤wx.heap.size)∧Hid (Below B W0 wz)∧Hid (Below wx.heap.size wx wz):=
 ⟨_,rfl,aD.new wx _ [.int .i64 0,.int .i64 0,.slice none 0 0,.slice none 0 0],hB,h.alloc hB _,oA _ _⟩
theorem lit_isJ{a:ByteArray}{l:List UInt8}(h:a=⟨l.toArray⟩):(a.toList==l)=true:=by rw[h,ByteArray.toList_eq];simp
set_option linter.unusedSimpArgs false in
theorem wReadJournal(A B:Option Addr)(nn mm c d:Nat)(zs qs:List Int)(w:World)(hn:nn=zs.length)(hc:nn≤c)(hm:c≤maxLen)(hr:∀z∈zs,0≤z∧z≤255)(hA:cB .u8 w A zs)
  (hn2:mm=qs.length) (hc2:mm≤d) (hm2:d≤maxLen) (hr2:∀z∈qs,0≤z∧z≤255) (hB:cB .u8 w B qs) (hg:fA w):
  Calls Tryz.prog 3 #[.slice A nn c,.slice B mm d] w fun e w' =>e= .returned (.bool true)∧Below w.heap.size w w' :=by
 have HO:=zH (drawReadJournal_any A nn c zs w hn hc hm hr hA)
 have HO2:Hid (∀W,Below w.heap.size w W→Calls Tryz.prog 12 #[.slice B mm d] W (PZ W)):=fun W hb=>SC B mm d qs W hn2 hc2 hm2 hr2 (hB.below hb)
 have HGW:=zH hg
 have hm' :nn≤9223372036854775807:=by unfold maxLen at hm;omega
 have hm2' :mm≤9223372036854775807:=by unfold maxLen at hm2;omega
 clear hn hc hm hr hA hn2 hc2 hm2 hr2 hB hg
 by_cases hl:1048576<nn
 ·have hd:decide ((1048576:Int)<(nn:Int))=true:=decide_eq_true (by omega)
  go_enter Tryz.func3,Tryz.ntmps3
  go_wp2_with fail
  go_ret
  exact⟨rfl,Below.refl _ _⟩
 by_cases hl2:1048576<mm
 ·have hd:decide ((1048576:Int)<(nn:Int))=false:=decide_eq_false (by omega)
  have hd2:decide ((1048576:Int)<(mm:Int))=true:=decide_eq_true (by omega)
  go_enter Tryz.func3,Tryz.ntmps3
  go_wp2_with fail
  go_ret
  exact⟨rfl,Below.refl _ _⟩
 have hd:decide ((1048576:Int)<(nn:Int))=false:=decide_eq_false (by omega)
 have hd2:decide ((1048576:Int)<(mm:Int))=false:=decide_eq_false (by omega)
 clear hl hl2
 go_enter Tryz.func3,Tryz.ntmps3
 go_wp2_with fail
 refine HO.out.mono ?_
 rintro e w1 ⟨s,rfl,hs,hb⟩
 have HB1:=zH hb
 obtain⟨P,hP⟩:∃P,xW s=P:=⟨_,rfl⟩
 have hT1:=rj_text s
 have hT2:=rj_deeds s
 have hT3:=rj_sizes s
 have hT4:=rj_len s
 have HCUT:Hid (∀k,k≤s.size→∃xs m,xW (s.extract 0 k)=(xs,m)∧P.1.take xs.length=xs∧xs.length≤P.1.length∧m≤k):=fun k hk=>by
  obtain⟨h1,h2⟩:=rj_cut hk
  rw[hP] at h1
  exact⟨_,_,rfl,take_prefix h1,h1.length_le,h2⟩
 rw[hP] at hT1 hT2 hT3 hT4
 obtain⟨ds,r⟩:=P
 have HRJ:=zH hP
 have HTX:Hid (jourB ds=s.extract 0 r∧r≤s.size):=hT1
 have HDE:Hid (∀x∈ds,bL (b8 x)≠[]):=hT2
 have HSZ:Hid (∀x∈ds,x.2.size≤1048576∧(b8 x).size≤1048576):=fun x hx=>by
  have:=hT3 x hx
  exact⟨by omega,by omega⟩
 have hdl:ds.length≤600:=Nat.le_trans hT4 hs
 dsimp only at HCUT
 clear hP hT1 hT2 hT3 hT4 hb
 go_wp2_with fail
 refine(iReadJ HRJ hs _).mono ?_
 rintro e w2 ⟨A5,c5,rfl,hrow,hb⟩
 have HR2:=zH hrow
 have HB2:=zH (aA HB1.out hb)
 clear hrow hb
 go_wp2_with fail
 refine(sReadJ HRJ hs _).mono ?_
 rintro e w3 ⟨A7,c7,rfl,hrow,hb⟩
 have HR3:=zH (HR2.out.below hb)
 have HV3:=zH hrow
 have HB3:=zH (aA HB2.out hb)
 have hrr:((r:Int) != (r:Int))=false:=by simp
 clear hrow hb
 go_wp2_with fail
 refine(lSameDeeds_b A5 A7 c5 c7 ds _ HR3.out HV3.out).mono ?_
 rintro e w4 ⟨rfl,hb⟩
 have HR4:=zH (HR3.out.below hb)
 have HB4:=zH (aA HB3.out hb)
 clear hb hrr HR3 HV3 HR2
 go_wp2_with fail
 go_loopw [10] (fun i wr=>∃k:Nat,k≤s.size+1∧i= .int .i64 k∧Hid (sA wr A5 ds.length c5 ds)∧Hid (Below w.heap.size w wr)) (fun i _=>s.size+1-(Go.RowKit.intOf i).toNat)
 case atStart=>exact⟨0,Nat.zero_le _,rfl,HR4,HB4⟩
 case round=>
  clear HR4 HB4 HB1 HB2 HB3
  obtain⟨k,hk,rfl,HR,HB⟩:=hrel
  by_cases hle:k≤s.size
  ·obtain⟨xs,m,hx,hxt,hxl,hmk⟩:=HCUT.out k hle
   have HX:=zH hx
   have HXT:=zH hxt
   obtain⟨y,hy⟩:∃y,s.extract 0 k=y:=⟨_,rfl⟩
   have hys:y.size≤600:=by rw[←hy,ByteArray.size_extract];omega
   rw[hy] at HX
   have hkI:(k:Int)≤(s.size:Int):=by omega
   have hgt:decide ((ds.length:Int)<(xs.length:Int))=false:=decide_eq_false (by omega)
   have hmn:min (xs.length:Int) (ds.length:Int)=(xs.length:Int):=by omega
   have hmk2:decide ((k:Int)<(m:Int))=false:=decide_eq_false (by omega)
   have hxc:(xs.length:Int)≤(c5:Int):=by have:=HR.out.hc;omega
   clear hx hxt
   go_wp2_with fail
   try rw[hy]
   refine(iReadJ HX hys _).mono ?_
   rintro e w5 ⟨A11,c11,rfl,hrow,hb⟩
   have HR5:=zH (HR.out.below hb)
   have HB5:=zH (aA HB.out hb)
   have HV5:=zH hrow
   clear hrow hb hy
   go_wp2_with fail
   refine(lSameDeeds_b A11 A5 c11 c5 xs _ HV5.out (rowJ_take HR5.out HXT.out hxl)).mono ?_
   rintro e w6 ⟨rfl,hb⟩
   have HR6:=zH (HR5.out.below hb)
   have HB6:=zH (aA HB5.out hb)
   clear hb HR5 HB5 HV5
   go_wp2_with fail
   go_roundw
   case rel=>exact⟨k+1,by omega,by go_num,HR6,HB6⟩
   case measure=>simp[Go.RowKit.intOf];omega
  ·obtain rfl:k=s.size+1:=by omega
   clear hk HCUT
   go_wp2_with fail
   refine(HO2.out _ HB.out).mono ?_
   rintro e w6 ⟨T,A1,n1,c1,B1,m1,d1,L,ln,lc,ds2,rfl,hT,hsT,_,_,_,hb⟩
   have HR6:=zH (HR.out.below hb)
   have HB6:=zH (aA HB.out hb)
   have HSM:=zH hsT
   have hx6:=DX.new hT
   have hb6:=oA w6 (.cells #[.int .i64 T.things,.int .i64 T.now.known,.slice A1 n1 c1,.slice B1 m1 d1] 33)
   clear hb hsT hT
   go_upto_region 15 with fail
   obtain⟨h13,hh13⟩:∃h,w6.heap.size=h:=⟨_,rfl⟩
   obtain⟨W7,hW7⟩:∃W,w6.alloc (.cells #[.int .i64 T.things,.int .i64 T.now.known,.slice A1 n1 c1,.slice B1 m1 d1] 33)=W:=⟨_,rfl⟩
   have HR7:=zH (HR6.out.below hb6)
   have HB7:=zH (aA HB6.out hb6)
   rw[hW7] at hx6 HR7 HB7
   rw[hh13] at hx6
   rw[hW7]
   try rw[hh13]
   have HX7:=zH hx6
   clear hW7 hh13 hx6 hb6 HR6 HB6 HR HB
   obtain⟨hc0,hc1,hc2,hc3⟩:=HX7.out.cells
   have hb7:=oA W7 (.cells #[.int .i64 T.things,.int .i64 T.now.known,.slice A1 n1 c1,.slice B1 m1 d1] 33)
   have hbx:=aD.new W7 33 [.int .i64 T.things,.int .i64 T.now.known,.slice A1 n1 c1,.slice B1 m1 d1]
   go_upto_region 16 with fail
   clear hc0 hc1 hc2 hc3
   obtain⟨h15,hh15⟩:∃h,W7.heap.size=h:=⟨_,rfl⟩
   obtain⟨W8,hW8⟩:∃W,W7.alloc (.cells #[.int .i64 T.things,.int .i64 T.now.known,.slice A1 n1 c1,.slice B1 m1 d1] 33)=W:=⟨_,rfl⟩
   rw[hW8] at hb7 hbx
   rw[hh15] at hbx
   rw[hW8]
   try rw[hh15]
   have HG8:=zH hbx
   have HB8:=zH (aA HB7.out hb7)
   have HST8:Hid (∀W,fI h15 W8 W→DX W h13 T A1 n1 c1 B1 m1 d1∧sA W A5 ds.length c5 ds):=fun W hW=>dx_exc HX7.out HR7.out (fun k hk=>(hW.2 k (Nat.lt_of_lt_of_le hk hb7.size) (by omega)).trans (hb7.block k hk)) (Nat.le_trans hb7.size hW.1)
   have HAT8:Hid (∀W,fI h15 W8 W→bN W T A1 n1 c1 B1 m1 d1):=fun W hW=>(HST8.out W hW).1.t
   clear hb7 hbx hW8 HX7 HR7
   obtain⟨z,hz⟩:∃z,dP T=z:=⟨_,rfl⟩
   have HOK:=zH hz
   have HN0:Hid (linesTo T ds 0=T):=rfl
   have HX15:Hid (w.heap.size≤h15):=by unfold Hid;rw[←hh15];exact HB7.out.size
   have HZ0:Hid (z=true→dP T=true):=fun h=>hz.trans h
   clear hz hh15 HB7
   go_wp2_with fail
   go_loopw [16] (fun i wr=>∃(k:Nat) (X:aL) (A:Option Addr) (n c:Nat) (B:Option Addr) (m d:Nat),k≤ds.length∧i= .int .i64 k∧Hid (linesTo T ds k=X)∧Hid (cD X)∧Hid (z=true→dP X=true)∧Hid (aD wr h15 33 [.int .i64 X.things,.int .i64 X.now.known,.slice A n c,.slice B m d])∧Hid (∀W,fI h15 wr W→bN W X A n c B m d)∧Hid (∀W,fI h15 wr W→DX W h13 T A1 n1 c1 B1 m1 d1∧sA W A5 ds.length c5 ds)∧Hid (Below w.heap.size w wr)) (fun i _=>ds.length-(Go.RowKit.intOf i).toNat)
   case atStart=>exact⟨0,T,A1,n1,c1,B1,m1,d1,Nat.zero_le _,rfl,HN0,HSM,HZ0,HG8,HAT8,HST8,HB8⟩
   case round=>
    clear HG8 HAT8 HST8 HB8 HN0 HZ0
    obtain⟨k,X,A,n,c,B,m,d,hk,rfl,HLX,HSX,HZX,HG,HAT,HST,HB⟩:=hrel
    have hex:(k<ds.length∧z=true)∨((k<ds.length∧z=false)∨k=ds.length):=by
     by_cases h:k<ds.length
     ·cases z with
      |true=>exact .inl ⟨h,rfl⟩
      |false=>exact .inr (.inl ⟨h,rfl⟩)
     ·exact .inr (.inr (by omega))
    rcases hex with⟨hlt,rfl⟩|hex
    ·have hd:decide ((k:Int)<(ds.length:Int))=true:=decide_eq_true (by omega)
     obtain⟨hx13,hrow⟩:=HST.out wr (fI.refl _ _)
     have HTO:=zH (q7 T A1 B1 n1 c1 m1 d1 wr hx13.t HSM.out)
     rw[HOK.out] at HTO
     obtain⟨hc0,hc1,hc2,hc3⟩:=hx13.cells
     clear hx13 hrow
     go_wp2_with fail
     refine HTO.out.mono ?_
     rintro e w9 ⟨rfl,hb⟩
     have HG9:=zH (HG.out.below hb)
     have HB9:=zH (aA HB.out hb)
     have HAT9:Hid (∀W,fI h15 w9 W→bN W X A n c B m d):=fun W hW=>HAT.out W ((fI.of_below hb).trans hW)
     have HST9:Hid (∀W,fI h15 w9 W→DX W h13 T A1 n1 c1 B1 m1 d1∧sA W A5 ds.length c5 ds):=fun W hW=>HST.out W ((fI.of_below hb).trans hW)
     obtain⟨b,off,kd,tx,rfl,he0,he1,hx,hbl⟩:=(HST9.out w9 (fI.refl _ _)).2.hA.elem hlt
     have HXE:=zH (HZX.out (by trivial))
     have HNX:=zH (linesTo_next (T:=T) hx)
     have hmem:=vU hx
     have HSD:=zH (HSZ.out _ hmem)
     obtain⟨Q,hQ⟩:∃Q,kS X (b8 (kd,tx))=Q:=⟨_,rfl⟩
     rw[HLX.out,hQ] at HNX
     obtain⟨Y,a⟩:=Q
     have HWD:=zH (line_word hQ (HDE.out _ hmem))
     have HYO:Hid (dP Y=true):=by
      have:=(CA aH sR p5 (b8 (kd,tx)) HXE.out).1
      rw[show cH aH sR p5 X (b8 (kd,tx))=(Y,a) from hQ] at this;exact this
     have HD:=zH hQ
     dsimp only at HNX
     have HGL:Hid (h15<w9.heap.size):=HG9.out.lt
     clear hb hc0 hc1 hc2 hc3 hmem hQ HTO HG HB HAT HST hx
     have HQ19:Hid (∀W,Below w9.heap.size w9 W→(W.cell? ⟨h15,0,none⟩=some (.int .i64 X.things)∧W.cell? ⟨h15,1,none⟩=some (.int .i64 X.now.known)∧W.cell? ⟨h15,2,none⟩=some (.slice A n c)∧W.cell? ⟨h15,3,none⟩=some (.slice B m d))∧W.cell? ⟨b,off+k*2,none⟩=some (.int .i64 kd)∧W.cell? ⟨b,off+k*2+1,none⟩=some (.string tx)):=fun W hb=>⟨⟨(HG9.out.below hb).cell rfl,(HG9.out.below hb).cell rfl,(HG9.out.below hb).cell rfl,(HG9.out.below hb).cell rfl⟩,(Below.cell hb (p:=⟨b,off+k*2,none⟩) hbl.out).trans he0,(Below.cell hb (p:=⟨b,off+k*2+1,none⟩) hbl.out).trans he1⟩
     have HDT:Hid (∀W:World,Calls Tryz.prog 15 #[.agg #[.int .i64 kd,.string tx]] W fun e w' =>e= .returned (.string (b8 (kd,tx)))∧Below W.heap.size W w'):=fun W=>wS kd tx W HSD.out.1
     have HTL:Hid (∀W,Below w9.heap.size w9 W→Calls Tryz.prog 14 #[.agg #[.int .i64 X.things,.int .i64 X.now.known,.slice A n c,.slice B m d],.string (b8 (kd,tx))] W (LineJ Y a W)):=fun W hb=>iTalkLine_j HD HXE.out (HAT9.out W (fI.of_below hb)) HSD.out.2 (HGW.out.below (aA HB9.out hb))
     obtain⟨dt,hdt⟩:∃x,b8 (kd,tx)=x:=⟨_,rfl⟩
     rw[hdt] at HDT HTL
     clear hdt HD HSD
     go_upto_region 19 with fail
     obtain⟨⟨hc0,hc1,hc2,hc3⟩,hc4,hc5⟩:=HQ19.out w9 (Below.refl _ _)
     go_cut [17,18] from 101 to 110 (fun s17 s18 wx=>∃h A' n' c' B' m' d' lo,s17= .pointer (some ⟨h,0,none⟩)∧s18= .string (cJ a)∧aD wx h 33 [.int .i64 Y.things,.int .i64 Y.now.known,.slice A' n' c',.slice B' m' d']∧dL wx lo Y A' n' c' B' m' d'∧w9.heap.size≤lo∧Below w9.heap.size w9 wx)
     case first=>
      have HB:Hid (Below w9.heap.size w9 w9.drew):=aE (Below.refl _ _) 1
      refine wp_region_held_drew (S:=(fun w' =>(w'.cell? ⟨h15,0,none⟩=some (.int .i64 X.things)∧w'.cell? ⟨h15,1,none⟩=some (.int .i64 X.now.known)∧w'.cell? ⟨h15,2,none⟩=some (.slice A n c)∧w'.cell? ⟨h15,3,none⟩=some (.slice B m d))∧w'.cell? ⟨b,off+k*2,none⟩=some (.int .i64 kd)∧w'.cell? ⟨b,off+k*2+1,none⟩=some (.string tx))) (by kernel_rfl) ?_ (fun hHeld=> ?_)
      ·exact HQ19.out _ HB.out
      obtain⟨wd,hwd⟩:∃wd,w9.drew=wd:=⟨_,rfl⟩
      rw[hwd] at HB hHeld⊢
      clear hwd
      refine zT 0 (h:=?_)
      try simp only[Act.put,zS]
      refine zT 1 (h:=?_)
      try simp only[Act.put,zS]
      refine zT 2 (h:=?_)
      try simp only[Act.put,zS]
      refine zT 3 (h:=?_)
      try simp only[Act.put,zS]
      refine zT 4 (h:=?_)
      try simp only[Act.put,zS]
      refine wpAnyH_ready (rs:=[5,10]) (by kernel_rfl) (by simp) ?_
      refine AllReadyH.cons rfl (fun K hK=> ?_) ?_
      ·(go_simp;go_at_call 15;refine(HDT.out _).mono ?_;rintro e wD ⟨rfl,hb⟩;replace HB:=zH (aA HB.out hb);(try replace HZV:=zH (HZV.out.below hb));clear hb)
       refine hK.out _ _ ?_ (fun hHeld=> ?_)
       ·exact HQ19.out _ HB.out
       clear hK K
       try simp only[Act.put,zS]
       refine wpAnyH_ready (rs:=[6,10]) (by kernel_rfl) (by simp) ?_
       refine AllReadyH.cons rfl (fun K hK=> ?_) ?_
       ·(go_simp;go_at_call 14;(try have hzl:=HZV.out.lt);have HLO:=zH HB.out.size;refine(HTL.out _ HB.out).mono ?_;rintro e wT ⟨A',n',c',B',m',d',rfl,hown,hb⟩;replace HB:=zH (aA HB.out hb);(try replace HZV:=zH (HZV.out.below hb));(try have HXK:=zH (fun a b r q=>hown.keep (jF hzl a b r q)));have HI:=zH hown;clear hb hown)
        refine hK.out _ _ ?_ (fun hHeld=> ?_)
        ·exact HQ19.out _ HB.out
        clear hK K
        try simp only[Act.put,zS]
        refine zT 7 (h:=?_)
        try simp only[Act.put,zS]
        refine zT 8 (h:=?_)
        try simp only[Act.put,zS]
        refine zT 9 (h:=?_)
        try simp only[Act.put,zS]
        refine wpAnyH_ready (rs:=[10]) (by kernel_rfl) (by simp) ?_
        refine AllReadyH.cons rfl (fun K hK=> ?_) AllReadyH.nil
        (go_simp;obtain⟨wz,hwz,HZV,HGN,HBn,HBl⟩:=al_genJ HB.out HB.out.size;rw[hwz];(try have HXK:=zH (fun a b r q=>HI.out.below (bG HBl.out (Nat.le_refl _) a b r q)));replace HB:=HBn;clear hwz HBl)
        refine hK.out _ _ ?_ (fun hHeld=> ?_)
        ·exact HQ19.out _ HB.out
        clear hK K
        try simp only[Act.put,zS]
        refine wpAnyH_ready (rs:=[11]) (by kernel_rfl) (by simp) ?_
        refine AllReadyH.cons rfl (fun K hK=> ?_) AllReadyH.nil
        (obtain⟨⟨ha0,ha1,ha2,ha3,ha4,ha5,ha6,ha7⟩,⟨hb2,hb3⟩,⟨hb4,hb5⟩,⟨hb6,hb7⟩,HOUT⟩:=HZV.out.store4 (.int .i64 Y.things) (.int .i64 Y.now.known) (.slice A' n' c') (.slice B' m' d');have HIF:=zH (HXK.out (.int .i64 Y.things) (.int .i64 Y.now.known) (.slice A' n' c') (.slice B' m' d'));replace HB:=zH (bG HB.out HGN.out (.int .i64 Y.things) (.int .i64 Y.now.known) (.slice A' n' c') (.slice B' m' d'));go_simp)
        refine hK.out _ _ ?_ (fun hHeld=> ?_)
        ·exact HQ19.out _ HB.out
        clear hK K
        try simp only[Act.put,zS]
        refine wpAnyH_ready (rs:=[12]) (by kernel_rfl) (by simp) ?_
        refine AllReadyH.cons rfl (fun K hK=> ?_) AllReadyH.nil
        go_simp
        refine hK.out _ _ ?_ (fun hHeld=> ?_)
        ·exact HQ19.out _ HB.out
        clear hK K
        try simp only[Act.put,zS]
        refine wpAnyH_done (by kernel_rfl) ?_ _
        go_wp2_with fail
        go_meet
        exact⟨_,A',n',c',B',m',d',_,rfl,rfl,HOUT.out,HIF.out,HLO.out,HB.out⟩
       refine AllReadyH.cons rfl (fun K hK=> ?_) ?_
       ·(go_simp;obtain⟨wz,hwz,HZV,HGN,HBn,HBl⟩:=al_genJ HB.out HB.out.size;rw[hwz];(try have HXK:=zH (fun a b r q=>HI.out.below (bG HBl.out (Nat.le_refl _) a b r q)));replace HB:=HBn;clear hwz HBl)
        refine hK.out _ _ ?_ (fun hHeld=> ?_)
        ·exact HQ19.out _ HB.out
        clear hK K
        try simp only[Act.put,zS]
        refine wpAnyH_ready (rs:=[6]) (by kernel_rfl) (by simp) ?_
        refine AllReadyH.cons rfl (fun K hK=> ?_) AllReadyH.nil
        (go_simp;go_at_call 14;(try have hzl:=HZV.out.lt);have HLO:=zH HB.out.size;refine(HTL.out _ HB.out).mono ?_;rintro e wT ⟨A',n',c',B',m',d',rfl,hown,hb⟩;replace HB:=zH (aA HB.out hb);(try replace HZV:=zH (HZV.out.below hb));(try have HXK:=zH (fun a b r q=>hown.keep (jF hzl a b r q)));have HI:=zH hown;clear hb hown)
        refine hK.out _ _ ?_ (fun hHeld=> ?_)
        ·exact HQ19.out _ HB.out
        clear hK K
        try simp only[Act.put,zS]
        refine zT 7 (h:=?_)
        try simp only[Act.put,zS]
        refine zT 8 (h:=?_)
        try simp only[Act.put,zS]
        refine zT 9 (h:=?_)
        try simp only[Act.put,zS]
        refine wpAnyH_ready (rs:=[11]) (by kernel_rfl) (by simp) ?_
        refine AllReadyH.cons rfl (fun K hK=> ?_) AllReadyH.nil
        (obtain⟨⟨ha0,ha1,ha2,ha3,ha4,ha5,ha6,ha7⟩,⟨hb2,hb3⟩,⟨hb4,hb5⟩,⟨hb6,hb7⟩,HOUT⟩:=HZV.out.store4 (.int .i64 Y.things) (.int .i64 Y.now.known) (.slice A' n' c') (.slice B' m' d');have HIF:=zH (HXK.out (.int .i64 Y.things) (.int .i64 Y.now.known) (.slice A' n' c') (.slice B' m' d'));replace HB:=zH (bG HB.out HGN.out (.int .i64 Y.things) (.int .i64 Y.now.known) (.slice A' n' c') (.slice B' m' d'));go_simp)
        refine hK.out _ _ ?_ (fun hHeld=> ?_)
        ·exact HQ19.out _ HB.out
        clear hK K
        try simp only[Act.put,zS]
        refine wpAnyH_ready (rs:=[12]) (by kernel_rfl) (by simp) ?_
        refine AllReadyH.cons rfl (fun K hK=> ?_) AllReadyH.nil
        go_simp
        refine hK.out _ _ ?_ (fun hHeld=> ?_)
        ·exact HQ19.out _ HB.out
        clear hK K
        try simp only[Act.put,zS]
        refine wpAnyH_done (by kernel_rfl) ?_ _
        go_wp2_with fail
        go_meet
        exact⟨_,A',n',c',B',m',d',_,rfl,rfl,HOUT.out,HIF.out,HLO.out,HB.out⟩
       exact AllReadyH.nil
      refine AllReadyH.cons rfl (fun K hK=> ?_) ?_
      ·(go_simp;obtain⟨wz,hwz,HZV,HGN,HBn,HBl⟩:=al_genJ HB.out HB.out.size;rw[hwz];(try have HXK:=zH (fun a b r q=>HI.out.below (bG HBl.out (Nat.le_refl _) a b r q)));replace HB:=HBn;clear hwz HBl)
       refine hK.out _ _ ?_ (fun hHeld=> ?_)
       ·exact HQ19.out _ HB.out
       clear hK K
       try simp only[Act.put,zS]
       refine wpAnyH_ready (rs:=[5]) (by kernel_rfl) (by simp) ?_
       refine AllReadyH.cons rfl (fun K hK=> ?_) AllReadyH.nil
       (go_simp;go_at_call 15;refine(HDT.out _).mono ?_;rintro e wD ⟨rfl,hb⟩;replace HB:=zH (aA HB.out hb);(try replace HZV:=zH (HZV.out.below hb));clear hb)
       refine hK.out _ _ ?_ (fun hHeld=> ?_)
       ·exact HQ19.out _ HB.out
       clear hK K
       try simp only[Act.put,zS]
       refine wpAnyH_ready (rs:=[6]) (by kernel_rfl) (by simp) ?_
       refine AllReadyH.cons rfl (fun K hK=> ?_) AllReadyH.nil
       (go_simp;go_at_call 14;(try have hzl:=HZV.out.lt);have HLO:=zH HB.out.size;refine(HTL.out _ HB.out).mono ?_;rintro e wT ⟨A',n',c',B',m',d',rfl,hown,hb⟩;replace HB:=zH (aA HB.out hb);(try replace HZV:=zH (HZV.out.below hb));(try have HXK:=zH (fun a b r q=>hown.keep (jF hzl a b r q)));have HI:=zH hown;clear hb hown)
       refine hK.out _ _ ?_ (fun hHeld=> ?_)
       ·exact HQ19.out _ HB.out
       clear hK K
       try simp only[Act.put,zS]
       refine zT 7 (h:=?_)
       try simp only[Act.put,zS]
       refine zT 8 (h:=?_)
       try simp only[Act.put,zS]
       refine zT 9 (h:=?_)
       try simp only[Act.put,zS]
       refine wpAnyH_ready (rs:=[11]) (by kernel_rfl) (by simp) ?_
       refine AllReadyH.cons rfl (fun K hK=> ?_) AllReadyH.nil
       (obtain⟨⟨ha0,ha1,ha2,ha3,ha4,ha5,ha6,ha7⟩,⟨hb2,hb3⟩,⟨hb4,hb5⟩,⟨hb6,hb7⟩,HOUT⟩:=HZV.out.store4 (.int .i64 Y.things) (.int .i64 Y.now.known) (.slice A' n' c') (.slice B' m' d');have HIF:=zH (HXK.out (.int .i64 Y.things) (.int .i64 Y.now.known) (.slice A' n' c') (.slice B' m' d'));replace HB:=zH (bG HB.out HGN.out (.int .i64 Y.things) (.int .i64 Y.now.known) (.slice A' n' c') (.slice B' m' d'));go_simp)
       refine hK.out _ _ ?_ (fun hHeld=> ?_)
       ·exact HQ19.out _ HB.out
       clear hK K
       try simp only[Act.put,zS]
       refine wpAnyH_ready (rs:=[12]) (by kernel_rfl) (by simp) ?_
       refine AllReadyH.cons rfl (fun K hK=> ?_) AllReadyH.nil
       go_simp
       refine hK.out _ _ ?_ (fun hHeld=> ?_)
       ·exact HQ19.out _ HB.out
       clear hK K
       try simp only[Act.put,zS]
       refine wpAnyH_done (by kernel_rfl) ?_ _
       go_wp2_with fail
       go_meet
       exact⟨_,A',n',c',B',m',d',_,rfl,rfl,HOUT.out,HIF.out,HLO.out,HB.out⟩
      exact AllReadyH.nil
     case rest=>
      obtain⟨h17,A',n',c',B',m',d',lo,rfl,rfl,hbx,hin,hlo,hbw⟩:=hcut
      obtain⟨W6,rfl⟩:∃W,W=wc:=⟨_,rfl⟩
      have HE:=zH hbx
      have HG6:=zH (HG9.out.below hbw)
      have HB6:=zH (aA HB9.out hbw)
      have hh15:w.heap.size≤h15:=by
       have h1:=HB9.out.size
       have h2:=HX15.out
       omega
      have HAT7:Hid (∀W,fI h15 ((((W6.setCell ⟨h15,0,none⟩ (.int .i64 Y.things)).setCell ⟨h15,1,none⟩ (.int .i64 Y.now.known)).setCell ⟨h15,2,none⟩ (.slice A' n' c')).setCell ⟨h15,3,none⟩ (.slice B' m' d')) W→bN W Y A' n' c' B' m' d'):=in_exc hin (by have:=HGL.out;omega)
      have HST7:Hid (∀W,fI h15 ((((W6.setCell ⟨h15,0,none⟩ (.int .i64 Y.things)).setCell ⟨h15,1,none⟩ (.int .i64 Y.now.known)).setCell ⟨h15,2,none⟩ (.slice A' n' c')).setCell ⟨h15,3,none⟩ (.slice B' m' d')) W→DX W h13 T A1 n1 c1 B1 m1 d1∧sA W (some ⟨b,off,none⟩) ds.length c5 ds):=fun W hW=>HST9.out W (((fI.of_below hbw).trans (fI.set4 h15 W6 _ _ _ _)).trans hW)
      clear hbx hin hlo hbw hc0 hc1 hc2 hc3 hc4 hc5 HQ19 HTL HDT HG9 HB9 HAT9 HST9 he0 he1
      have hz0:=HE.out.cell (i:=0) (v:= .int .i64 Y.things) rfl
      have hz1:=HE.out.cell (i:=1) (v:= .int .i64 Y.now.known) rfl
      have hz2:=HE.out.cell (i:=2) (v:= .slice A' n' c') rfl
      have hz3:=HE.out.cell (i:=3) (v:= .slice B' m' d') rfl
      obtain⟨⟨ha0,ha1,ha2,ha3,ha4,ha5,ha6,ha7⟩,⟨hb2,hb3⟩,⟨hb4,hb5⟩,⟨hb6,hb7⟩,HG7⟩:=HG6.out.store4 (.int .i64 Y.things) (.int .i64 Y.now.known) (.slice A' n' c') (.slice B' m' d')
      have HB7:=zH (bG HB6.out hh15 (.int .i64 Y.things) (.int .i64 Y.now.known) (.slice A' n' c') (.slice B' m' d'))
      have HYS:=zH (lQ HYO.out)
      have HZY:Hid (True→dP Y=true):=fun _=>HYO.out
      rcases HWD.out with ha|ha
      ·have k1:((cJ a).toList==[111,107])=true:=lit_isJ (by rw[ha];rfl)
       have k2:((cJ a).toList==[110,111])=false:=j3 (by rw[ha];decide)
       clear ha
       go_wp2_with fail
       go_roundw
       case rel=>exact⟨k+1,Y,A',n',c',B',m',d',by omega,by go_num,HNX,HYS,HZY,HG7,HAT7,HST7,HB7⟩
       case measure=>simp[Go.RowKit.intOf];omega
      ·have k1:((cJ a).toList==[111,107])=false:=j3 (by rw[ha];decide)
       have k2:((cJ a).toList==[110,111])=true:=lit_isJ (by rw[ha];rfl)
       clear ha
       go_wp2_with fail
       go_roundw
       case rel=>exact⟨k+1,Y,A',n',c',B',m',d',by omega,by go_num,HNX,HYS,HZY,HG7,HAT7,HST7,HB7⟩
       case measure=>simp[Go.RowKit.intOf];omega
    ·have HXR:Hid (z=true→ds.length≤40→X=(xM T ds).1):=fun h1 h2=>by
      rcases hex with⟨_,h⟩|h
      ·rw[h1] at h;cases h
      ·rw[←linesTo_run (HOK.out.trans h1) h2 HDE.out,←h];exact HLX.out.symm
     obtain⟨hx13,hrow⟩:=HST.out wr (fI.refl _ _)
     have HTO:=zH (q7 T A1 B1 n1 c1 m1 d1 wr hx13.t HSM.out)
     rw[HOK.out] at HTO
     rcases hex with⟨hlt,hzf⟩|hke
     ·have hd:decide ((k:Int)<(ds.length:Int))=true:=decide_eq_true (by omega)
      obtain⟨hc0,hc1,hc2,hc3⟩:=hx13.cells
      rw[hzf] at HTO
      have HZF:=zH hzf
      clear hzf
      clear hx13 hrow
      go_wp2_with fail
      refine HTO.out.mono ?_
      rintro e wf ⟨rfl,hb⟩
      replace HG:=zH (HG.out.below hb)
      replace HB:=zH (aA HB.out hb)
      replace HAT:Hid (∀W,fI h15 wf W→bN W X A n c B m d):=fun W hW=>HAT.out W ((fI.of_below hb).trans hW)
      replace HST:Hid (∀W,fI h15 wf W→DX W h13 T A1 n1 c1 B1 m1 d1∧sA W A5 ds.length c5 ds):=fun W hW=>HST.out W ((fI.of_below hb).trans hW)
      clear hb hc0 hc1 hc2 hc3 HTO hd
      go_upto_region 23 with fail
      obtain⟨R,hR⟩:∃R,(xM T ds).1=R:=⟨_,rfl⟩
      rw[hR] at HXR
      have HRN:=zH hR
      have HRS:Hid (cD R):=by unfold Hid;rw[←hR];exact runTo_small T ds
      clear hR
      obtain⟨hx13,hrow⟩:=HST.out wf (fI.refl _ _)
      obtain⟨hc0,hc1,hc2,hc3⟩:=hx13.cells
      have HRU:=zH (iTalkRun_j HRN hx13.t HSM.out hrow (fun x hx=>(HSZ.out x hx).1))
      clear hx13 hrow
      go_wp2_with fail
      refine HRU.out.mono ?_
      rintro e w11 ⟨A19,n19,c19,B19,m19,d19,N,rfl,hin,hb⟩
      clear hc0 hc1 hc2 hc3 HRU
      have hx19:=DX.new hin.at_
      have hb12:=aA hb (oA w11 (.cells #[.int .i64 R.things,.int .i64 R.now.known,.slice A19 n19 c19,.slice B19 m19 d19] 33))
      go_upto_region 24 with fail
      obtain⟨h19,hh19⟩:∃h,w11.heap.size=h:=⟨_,rfl⟩
      obtain⟨W12,hW12⟩:∃W,w11.alloc (.cells #[.int .i64 R.things,.int .i64 R.now.known,.slice A19 n19 c19,.slice B19 m19 d19] 33)=W:=⟨_,rfl⟩
      rw[hW12] at hx19 hb12
      rw[hh19] at hx19
      rw[hW12]
      try rw[hh19]
      have HE:=zH hx19
      have HG12:=zH (HG.out.below hb12)
      have HB12:=zH (aA HB.out hb12)
      have HAT12:Hid (bN W12 X A n c B m d):=HAT.out W12 (fI.of_below hb12)
      have HST12:=zH (HST.out W12 (fI.of_below hb12))
      clear hx19 hh19 hW12 hb12 hb hin HG HB HAT HST
      have HQ24:Hid (∀W,Below W12.heap.size W12 W→(W.cell? ⟨h13,0,none⟩=some (.int .i64 T.things)∧W.cell? ⟨h13,1,none⟩=some (.int .i64 T.now.known)∧W.cell? ⟨h13,2,none⟩=some (.slice A1 n1 c1)∧W.cell? ⟨h13,3,none⟩=some (.slice B1 m1 d1))∧(W.cell? ⟨h15,0,none⟩=some (.int .i64 X.things)∧W.cell? ⟨h15,1,none⟩=some (.int .i64 X.now.known)∧W.cell? ⟨h15,2,none⟩=some (.slice A n c)∧W.cell? ⟨h15,3,none⟩=some (.slice B m d))∧(W.cell? ⟨h19,0,none⟩=some (.int .i64 R.things)∧W.cell? ⟨h19,1,none⟩=some (.int .i64 R.now.known)∧W.cell? ⟨h19,2,none⟩=some (.slice A19 n19 c19)∧W.cell? ⟨h19,3,none⟩=some (.slice B19 m19 d19))):=fun W hb=>⟨(HST12.out.1.below hb).cells,⟨(HG12.out.below hb).cell rfl,(HG12.out.below hb).cell rfl,(HG12.out.below hb).cell rfl,(HG12.out.below hb).cell rfl⟩,(HE.out.below hb).cells⟩
      have HJ24:Hid (∀W,Below W12.heap.size W12 W→Calls Tryz.prog 17 #[.slice A5 ds.length c5] W fun e w' =>e= .returned (.string (s.extract 0 r))∧Below W.heap.size W w'):=fun W hb=>by
       have:=iJournalText A5 ds.length c5 ds W (HST12.out.2.below hb) (fun x hx=>(HSZ.out x hx).1)
       rw[HTX.out.1] at this;exact this
      have HO24:Hid (∀W,Below W12.heap.size W12 W→Calls Tryz.prog 13 #[.agg #[.int .i64 T.things,.int .i64 T.now.known,.slice A1 n1 c1,.slice B1 m1 d1]] W fun e w' =>e= .returned (.bool z)∧Below W.heap.size W w'):=fun W hb=>by
       have:=q7 T A1 B1 n1 c1 m1 d1 W (HST12.out.1.below hb).t HSM.out
       rw[HOK.out] at this;exact this
      have HS24:Hid (z=true→ds.length≤40→∀W,Below W12.heap.size W12 W→Calls Tryz.prog 18 #[.agg #[.int .i64 X.things,.int .i64 X.now.known,.slice A n c,.slice B m d],.agg #[.int .i64 R.things,.int .i64 R.now.known,.slice A19 n19 c19,.slice B19 m19 d19]] W fun e w' =>e= .returned (.bool true)∧Below W.heap.size W w'):=fun h1 h2 W hb=>
       (XX X R A B A19 B19 n c m d n19 c19 m19 d19 W (HAT12.out.below hb) (HE.out.below hb).t HSX.out HRS.out).mono fun e w' ⟨⟨b,he,hbt⟩,hb2⟩=>⟨by rw[he,hbt (HXR.out h1 h2)],hb2⟩
      have hrl:decide ((r:Int)≤(s.size:Int))=true:=decide_eq_true (by have:=HTX.out.2;omega)
      have hrl2:(r:Int)≤(s.size:Int):=by have:=HTX.out.2;omega
      have hse:((s.extract 0 r).toList==(s.extract 0 r).toList)=true:=sW _
      have HBC:Hid (Below W12.heap.size W12 W12.drew):=aE (Below.refl _ _) 1
      have HK0:=zH (HQ24.out _ HBC.out)
      clear HAT12 HST12 HG12 HE HXR
      obtain rfl:=HZF.out
      refine wp_region_held_drew (S:=(fun w' =>(w'.cell? ⟨h13,0,none⟩=some (.int .i64 T.things)∧w'.cell? ⟨h13,1,none⟩=some (.int .i64 T.now.known)∧w'.cell? ⟨h13,2,none⟩=some (.slice A1 n1 c1)∧w'.cell? ⟨h13,3,none⟩=some (.slice B1 m1 d1))∧(w'.cell? ⟨h15,0,none⟩=some (.int .i64 X.things)∧w'.cell? ⟨h15,1,none⟩=some (.int .i64 X.now.known)∧w'.cell? ⟨h15,2,none⟩=some (.slice A n c)∧w'.cell? ⟨h15,3,none⟩=some (.slice B m d))∧(w'.cell? ⟨h19,0,none⟩=some (.int .i64 R.things)∧w'.cell? ⟨h19,1,none⟩=some (.int .i64 R.now.known)∧w'.cell? ⟨h19,2,none⟩=some (.slice A19 n19 c19)∧w'.cell? ⟨h19,3,none⟩=some (.slice B19 m19 d19)))) (by kernel_rfl) ?_ (fun hHeld=> ?_)
      ·exact HK0.out
      refine zT 0 (h:=?_)
      try simp only[Act.put,zS]
      refine zT 1 (h:=?_)
      try simp only[Act.put,zS]
      refine zT 2 (h:=?_)
      try simp only[Act.put,zS]
      refine zT 3 (h:=?_)
      try simp only[Act.put,zS]
      refine zT 4 (h:=?_)
      try simp only[Act.put,zS]
      refine zT 5 (h:=?_)
      try simp only[Act.put,zS]
      refine zT 7 (h:=?_)
      try simp only[Act.put,zS]
      refine zT 8 (h:=?_)
      try simp only[Act.put,zS]
      refine zT 9 (h:=?_)
      try simp only[Act.put,zS]
      refine wpAnyH_ready (rs:=[6]) (by kernel_rfl) (by simp) ?_
      refine AllReadyH.cons rfl (fun K hK=> ?_) ?_
      ·(go_simp;go_at_call 17;refine(HJ24.out _ HBC.out).mono ?_;rintro e wj ⟨rfl,hb⟩;replace HBC:=zH (aA HBC.out hb);clear hb)
       refine hK.out _ _ ?_ (fun hHeld=> ?_)
       ·exact HQ24.out _ HBC.out
       clear hK K
       try simp only[Act.put,zS]
       refine zT 10 (h:=?_)
       try simp only[Act.put,zS]
       refine zT 11 (h:=?_)
       try simp only[Act.put,zS]
       refine zT 12 (h:=?_)
       try simp only[Act.put,zS]
       refine zT 13 (h:=?_)
       try simp only[Act.put,zS]
       refine wpAnyH_ready (rs:=[14]) (by kernel_rfl) (by simp) ?_
       refine AllReadyH.cons rfl (fun K hK=> ?_) ?_
       ·(go_simp;go_at_call 13;refine(HO24.out _ HBC.out).mono ?_;rintro e wo ⟨rfl,hb⟩;replace HBC:=zH (aA HBC.out hb);clear hb)
        refine hK.out _ _ ?_ (fun hHeld=> ?_)
        ·exact HQ24.out _ HBC.out
        clear hK K
        try simp only[Act.put,zS]
        refine zT 15 (h:=?_)
        try simp only[Act.put,zS]
        refine zT 16 (h:=?_)
        try simp only[Act.put,zS]
        refine wpAnyH_take (i:=17) (v:=undef) rfl (by kernel_rfl) (by kernel_rfl) (by kernel_rfl) (fun _ _ _ h=>h) (Or.inr ⟨by rfl,rfl⟩) (by assumption) ?_
        try simp only[Act.put,zS]
        refine wpAnyH_take (i:=18) (v:=undef) rfl (by kernel_rfl) (by kernel_rfl) (by kernel_rfl) (fun _ _ _ h=>h) (Or.inr ⟨by rfl,rfl⟩) (by assumption) ?_
        try simp only[Act.put,zS]
        refine wpAnyH_take (i:=19) (v:=undef) rfl (by kernel_rfl) (by kernel_rfl) (by kernel_rfl) (fun _ _ _ h=>h) (Or.inr ⟨by rfl,rfl⟩) (by assumption) ?_
        try simp only[Act.put,zS]
        refine zT 20 (h:=?_)
        try simp only[Act.put,zS]
        refine zT 21 (h:=?_)
        try simp only[Act.put,zS]
        refine wpAnyH_take (i:=22) (v:=undef) rfl (by kernel_rfl) (by kernel_rfl) (by kernel_rfl) (fun _ _ _ h=>h) (Or.inr ⟨by rfl,rfl⟩) (by assumption) ?_
        try simp only[Act.put,zS]
        refine wpAnyH_take (i:=23) (v:=undef) rfl (by kernel_rfl) (by kernel_rfl) (by kernel_rfl) (fun _ _ _ h=>h) (Or.inr ⟨by rfl,rfl⟩) (by assumption) ?_
        try simp only[Act.put,zS]
        refine wpAnyH_take (i:=24) (v:=undef) rfl (by kernel_rfl) (by kernel_rfl) (by kernel_rfl) (fun _ _ _ h=>h) (Or.inr ⟨by rfl,rfl⟩) (by assumption) ?_
        try simp only[Act.put,zS]
        refine zT 25 (h:=?_)
        try simp only[Act.put,zS]
        refine zT 26 (h:=?_)
        try simp only[Act.put,zS]
        refine zT 27 (h:=?_)
        try simp only[Act.put,zS]
        refine wpAnyH_ready (rs:=[28]) (by kernel_rfl) (by simp) ?_
        refine AllReadyH.cons rfl (fun K hK=> ?_) ?_
        ·(go_simp;go_at_call 19;refine(lAlive _).mono ?_;rintro e wl ⟨rfl,rfl⟩)
         refine hK.out _ _ ?_ (fun hHeld=> ?_)
         ·exact HQ24.out _ HBC.out
         clear hK K
         try simp only[Act.put,zS]
         refine zT 29 (h:=?_)
         try simp only[Act.put,zS]
         refine wpAnyH_ready (rs:=[30]) (by kernel_rfl) (by simp) ?_
         refine AllReadyH.cons rfl (fun K hK=> ?_) ?_
         ·go_simp
          refine hK.out _ _ ?_ (fun hHeld=> ?_)
          ·exact HQ24.out _ HBC.out
          clear hK K
          try simp only[Act.put,zS]
          refine wpAnyH_done (by kernel_rfl) ?_ _
          go_wp2_with fail
          go_ret
          exact⟨rfl,aA HB12.out HBC.out⟩
         exact AllReadyH.nil
        exact AllReadyH.nil
       exact AllReadyH.nil
      exact AllReadyH.nil
     ·have hd:decide ((k:Int)<(ds.length:Int))=false:=decide_eq_false (by omega)
      clear hx13 hrow HTO
      go_upto_region 23 with fail
      obtain⟨wf,hwf⟩:∃W,wr=W:=⟨_,rfl⟩
      rw[hwf] at HG HB HAT HST
      rw[hwf]
      clear hwf hd
      obtain⟨R,hR⟩:∃R,(xM T ds).1=R:=⟨_,rfl⟩
      rw[hR] at HXR
      have HRN:=zH hR
      have HRS:Hid (cD R):=by unfold Hid;rw[←hR];exact runTo_small T ds
      clear hR
      obtain⟨hx13,hrow⟩:=HST.out wf (fI.refl _ _)
      obtain⟨hc0,hc1,hc2,hc3⟩:=hx13.cells
      have HRU:=zH (iTalkRun_j HRN hx13.t HSM.out hrow (fun x hx=>(HSZ.out x hx).1))
      clear hx13 hrow
      go_wp2_with fail
      refine HRU.out.mono ?_
      rintro e w11 ⟨A19,n19,c19,B19,m19,d19,N,rfl,hin,hb⟩
      clear hc0 hc1 hc2 hc3 HRU
      have hx19:=DX.new hin.at_
      have hb12:=aA hb (oA w11 (.cells #[.int .i64 R.things,.int .i64 R.now.known,.slice A19 n19 c19,.slice B19 m19 d19] 33))
      go_upto_region 24 with fail
      obtain⟨h19,hh19⟩:∃h,w11.heap.size=h:=⟨_,rfl⟩
      obtain⟨W12,hW12⟩:∃W,w11.alloc (.cells #[.int .i64 R.things,.int .i64 R.now.known,.slice A19 n19 c19,.slice B19 m19 d19] 33)=W:=⟨_,rfl⟩
      rw[hW12] at hx19 hb12
      rw[hh19] at hx19
      rw[hW12]
      try rw[hh19]
      have HE:=zH hx19
      have HG12:=zH (HG.out.below hb12)
      have HB12:=zH (aA HB.out hb12)
      have HAT12:Hid (bN W12 X A n c B m d):=HAT.out W12 (fI.of_below hb12)
      have HST12:=zH (HST.out W12 (fI.of_below hb12))
      clear hx19 hh19 hW12 hb12 hb hin HG HB HAT HST
      have HQ24:Hid (∀W,Below W12.heap.size W12 W→(W.cell? ⟨h13,0,none⟩=some (.int .i64 T.things)∧W.cell? ⟨h13,1,none⟩=some (.int .i64 T.now.known)∧W.cell? ⟨h13,2,none⟩=some (.slice A1 n1 c1)∧W.cell? ⟨h13,3,none⟩=some (.slice B1 m1 d1))∧(W.cell? ⟨h15,0,none⟩=some (.int .i64 X.things)∧W.cell? ⟨h15,1,none⟩=some (.int .i64 X.now.known)∧W.cell? ⟨h15,2,none⟩=some (.slice A n c)∧W.cell? ⟨h15,3,none⟩=some (.slice B m d))∧(W.cell? ⟨h19,0,none⟩=some (.int .i64 R.things)∧W.cell? ⟨h19,1,none⟩=some (.int .i64 R.now.known)∧W.cell? ⟨h19,2,none⟩=some (.slice A19 n19 c19)∧W.cell? ⟨h19,3,none⟩=some (.slice B19 m19 d19))):=fun W hb=>⟨(HST12.out.1.below hb).cells,⟨(HG12.out.below hb).cell rfl,(HG12.out.below hb).cell rfl,(HG12.out.below hb).cell rfl,(HG12.out.below hb).cell rfl⟩,(HE.out.below hb).cells⟩
      have HJ24:Hid (∀W,Below W12.heap.size W12 W→Calls Tryz.prog 17 #[.slice A5 ds.length c5] W fun e w' =>e= .returned (.string (s.extract 0 r))∧Below W.heap.size W w'):=fun W hb=>by
       have:=iJournalText A5 ds.length c5 ds W (HST12.out.2.below hb) (fun x hx=>(HSZ.out x hx).1)
       rw[HTX.out.1] at this;exact this
      have HO24:Hid (∀W,Below W12.heap.size W12 W→Calls Tryz.prog 13 #[.agg #[.int .i64 T.things,.int .i64 T.now.known,.slice A1 n1 c1,.slice B1 m1 d1]] W fun e w' =>e= .returned (.bool z)∧Below W.heap.size W w'):=fun W hb=>by
       have:=q7 T A1 B1 n1 c1 m1 d1 W (HST12.out.1.below hb).t HSM.out
       rw[HOK.out] at this;exact this
      have HS24:Hid (z=true→ds.length≤40→∀W,Below W12.heap.size W12 W→Calls Tryz.prog 18 #[.agg #[.int .i64 X.things,.int .i64 X.now.known,.slice A n c,.slice B m d],.agg #[.int .i64 R.things,.int .i64 R.now.known,.slice A19 n19 c19,.slice B19 m19 d19]] W fun e w' =>e= .returned (.bool true)∧Below W.heap.size W w'):=fun h1 h2 W hb=>
       (XX X R A B A19 B19 n c m d n19 c19 m19 d19 W (HAT12.out.below hb) (HE.out.below hb).t HSX.out HRS.out).mono fun e w' ⟨⟨b,he,hbt⟩,hb2⟩=>⟨by rw[he,hbt (HXR.out h1 h2)],hb2⟩
      have hrl:decide ((r:Int)≤(s.size:Int))=true:=decide_eq_true (by have:=HTX.out.2;omega)
      have hrl2:(r:Int)≤(s.size:Int):=by have:=HTX.out.2;omega
      have hse:((s.extract 0 r).toList==(s.extract 0 r).toList)=true:=sW _
      have HBC:Hid (Below W12.heap.size W12 W12.drew):=aE (Below.refl _ _) 1
      have HK0:=zH (HQ24.out _ HBC.out)
      have hca:(z=true∧ds.length≤40)∨(z=true∧40<ds.length)∨z=false:=by
       cases z with
       |false=>exact .inr (.inr rfl)
       |true=>by_cases h:ds.length≤40
              ·exact .inl ⟨rfl,h⟩
              ·exact .inr (.inl ⟨rfl,by omega⟩)
      clear HAT12 HST12 HG12 HE HXR
      rcases hca with⟨rfl,h40⟩|⟨rfl,h40⟩|rfl
      ·have hgt:decide ((40:Int)<(ds.length:Int))=false:=decide_eq_false (by omega)
       refine wp_region_held_drew (S:=(fun w' =>(w'.cell? ⟨h13,0,none⟩=some (.int .i64 T.things)∧w'.cell? ⟨h13,1,none⟩=some (.int .i64 T.now.known)∧w'.cell? ⟨h13,2,none⟩=some (.slice A1 n1 c1)∧w'.cell? ⟨h13,3,none⟩=some (.slice B1 m1 d1))∧(w'.cell? ⟨h15,0,none⟩=some (.int .i64 X.things)∧w'.cell? ⟨h15,1,none⟩=some (.int .i64 X.now.known)∧w'.cell? ⟨h15,2,none⟩=some (.slice A n c)∧w'.cell? ⟨h15,3,none⟩=some (.slice B m d))∧(w'.cell? ⟨h19,0,none⟩=some (.int .i64 R.things)∧w'.cell? ⟨h19,1,none⟩=some (.int .i64 R.now.known)∧w'.cell? ⟨h19,2,none⟩=some (.slice A19 n19 c19)∧w'.cell? ⟨h19,3,none⟩=some (.slice B19 m19 d19)))) (by kernel_rfl) ?_ (fun hHeld=> ?_)
       ·exact HK0.out
       refine zT 0 (h:=?_)
       try simp only[Act.put,zS]
       refine zT 1 (h:=?_)
       try simp only[Act.put,zS]
       refine zT 2 (h:=?_)
       try simp only[Act.put,zS]
       refine zT 3 (h:=?_)
       try simp only[Act.put,zS]
       refine zT 4 (h:=?_)
       try simp only[Act.put,zS]
       refine zT 5 (h:=?_)
       try simp only[Act.put,zS]
       refine zT 7 (h:=?_)
       try simp only[Act.put,zS]
       refine zT 8 (h:=?_)
       try simp only[Act.put,zS]
       refine zT 9 (h:=?_)
       try simp only[Act.put,zS]
       refine wpAnyH_ready (rs:=[6]) (by kernel_rfl) (by simp) ?_
       refine AllReadyH.cons rfl (fun K hK=> ?_) ?_
       ·(go_simp;go_at_call 17;refine(HJ24.out _ HBC.out).mono ?_;rintro e wj ⟨rfl,hb⟩;replace HBC:=zH (aA HBC.out hb);clear hb)
        refine hK.out _ _ ?_ (fun hHeld=> ?_)
        ·exact HQ24.out _ HBC.out
        clear hK K
        try simp only[Act.put,zS]
        refine zT 10 (h:=?_)
        try simp only[Act.put,zS]
        refine zT 11 (h:=?_)
        try simp only[Act.put,zS]
        refine zT 12 (h:=?_)
        try simp only[Act.put,zS]
        refine zT 13 (h:=?_)
        try simp only[Act.put,zS]
        refine wpAnyH_ready (rs:=[14]) (by kernel_rfl) (by simp) ?_
        refine AllReadyH.cons rfl (fun K hK=> ?_) ?_
        ·(go_simp;go_at_call 13;refine(HO24.out _ HBC.out).mono ?_;rintro e wo ⟨rfl,hb⟩;replace HBC:=zH (aA HBC.out hb);clear hb)
         refine hK.out _ _ ?_ (fun hHeld=> ?_)
         ·exact HQ24.out _ HBC.out
         clear hK K
         try simp only[Act.put,zS]
         refine zT 15 (h:=?_)
         try simp only[Act.put,zS]
         refine zT 16 (h:=?_)
         try simp only[Act.put,zS]
         refine zT 17 (h:=?_)
         try simp only[Act.put,zS]
         refine zT 18 (h:=?_)
         try simp only[Act.put,zS]
         refine zT 19 (h:=?_)
         try simp only[Act.put,zS]
         refine zT 20 (h:=?_)
         try simp only[Act.put,zS]
         refine zT 21 (h:=?_)
         try simp only[Act.put,zS]
         refine zT 22 (h:=?_)
         try simp only[Act.put,zS]
         refine zT 23 (h:=?_)
         try simp only[Act.put,zS]
         refine wpAnyH_ready (rs:=[24]) (by kernel_rfl) (by simp) ?_
         refine AllReadyH.cons rfl (fun K hK=> ?_) ?_
         ·(go_simp;go_at_call 18;refine(HS24.out rfl h40 _ HBC.out).mono ?_;rintro e wt ⟨rfl,hb⟩;replace HBC:=zH (aA HBC.out hb);clear hb)
          refine hK.out _ _ ?_ (fun hHeld=> ?_)
          ·exact HQ24.out _ HBC.out
          clear hK K
          try simp only[Act.put,zS]
          refine zT 25 (h:=?_)
          try simp only[Act.put,zS]
          refine zT 26 (h:=?_)
          try simp only[Act.put,zS]
          refine zT 27 (h:=?_)
          try simp only[Act.put,zS]
          refine wpAnyH_ready (rs:=[28]) (by kernel_rfl) (by simp) ?_
          refine AllReadyH.cons rfl (fun K hK=> ?_) ?_
          ·(go_simp;go_at_call 19;refine(lAlive _).mono ?_;rintro e wl ⟨rfl,rfl⟩)
           refine hK.out _ _ ?_ (fun hHeld=> ?_)
           ·exact HQ24.out _ HBC.out
           clear hK K
           try simp only[Act.put,zS]
           refine zT 29 (h:=?_)
           try simp only[Act.put,zS]
           refine wpAnyH_ready (rs:=[30]) (by kernel_rfl) (by simp) ?_
           refine AllReadyH.cons rfl (fun K hK=> ?_) ?_
           ·go_simp
            refine hK.out _ _ ?_ (fun hHeld=> ?_)
            ·exact HQ24.out _ HBC.out
            clear hK K
            try simp only[Act.put,zS]
            refine wpAnyH_done (by kernel_rfl) ?_ _
            go_wp2_with fail
            go_ret
            exact⟨rfl,aA HB12.out HBC.out⟩
           exact AllReadyH.nil
          exact AllReadyH.nil
         exact AllReadyH.nil
        exact AllReadyH.nil
       exact AllReadyH.nil
      ·have hgt:decide ((40:Int)<(ds.length:Int))=true:=decide_eq_true (by omega)
       refine wp_region_held_drew (S:=(fun w' =>(w'.cell? ⟨h13,0,none⟩=some (.int .i64 T.things)∧w'.cell? ⟨h13,1,none⟩=some (.int .i64 T.now.known)∧w'.cell? ⟨h13,2,none⟩=some (.slice A1 n1 c1)∧w'.cell? ⟨h13,3,none⟩=some (.slice B1 m1 d1))∧(w'.cell? ⟨h15,0,none⟩=some (.int .i64 X.things)∧w'.cell? ⟨h15,1,none⟩=some (.int .i64 X.now.known)∧w'.cell? ⟨h15,2,none⟩=some (.slice A n c)∧w'.cell? ⟨h15,3,none⟩=some (.slice B m d))∧(w'.cell? ⟨h19,0,none⟩=some (.int .i64 R.things)∧w'.cell? ⟨h19,1,none⟩=some (.int .i64 R.now.known)∧w'.cell? ⟨h19,2,none⟩=some (.slice A19 n19 c19)∧w'.cell? ⟨h19,3,none⟩=some (.slice B19 m19 d19)))) (by kernel_rfl) ?_ (fun hHeld=> ?_)
       ·exact HK0.out
       refine zT 0 (h:=?_)
       try simp only[Act.put,zS]
       refine zT 1 (h:=?_)
       try simp only[Act.put,zS]
       refine zT 2 (h:=?_)
       try simp only[Act.put,zS]
       refine zT 3 (h:=?_)
       try simp only[Act.put,zS]
       refine zT 4 (h:=?_)
       try simp only[Act.put,zS]
       refine zT 5 (h:=?_)
       try simp only[Act.put,zS]
       refine zT 7 (h:=?_)
       try simp only[Act.put,zS]
       refine zT 8 (h:=?_)
       try simp only[Act.put,zS]
       refine zT 9 (h:=?_)
       try simp only[Act.put,zS]
       refine wpAnyH_ready (rs:=[6]) (by kernel_rfl) (by simp) ?_
       refine AllReadyH.cons rfl (fun K hK=> ?_) ?_
       ·(go_simp;go_at_call 17;refine(HJ24.out _ HBC.out).mono ?_;rintro e wj ⟨rfl,hb⟩;replace HBC:=zH (aA HBC.out hb);clear hb)
        refine hK.out _ _ ?_ (fun hHeld=> ?_)
        ·exact HQ24.out _ HBC.out
        clear hK K
        try simp only[Act.put,zS]
        refine zT 10 (h:=?_)
        try simp only[Act.put,zS]
        refine zT 11 (h:=?_)
        try simp only[Act.put,zS]
        refine zT 12 (h:=?_)
        try simp only[Act.put,zS]
        refine zT 13 (h:=?_)
        try simp only[Act.put,zS]
        refine wpAnyH_ready (rs:=[14]) (by kernel_rfl) (by simp) ?_
        refine AllReadyH.cons rfl (fun K hK=> ?_) ?_
        ·(go_simp;go_at_call 13;refine(HO24.out _ HBC.out).mono ?_;rintro e wo ⟨rfl,hb⟩;replace HBC:=zH (aA HBC.out hb);clear hb)
         refine hK.out _ _ ?_ (fun hHeld=> ?_)
         ·exact HQ24.out _ HBC.out
         clear hK K
         try simp only[Act.put,zS]
         refine zT 15 (h:=?_)
         try simp only[Act.put,zS]
         refine zT 16 (h:=?_)
         try simp only[Act.put,zS]
         refine zT 17 (h:=?_)
         try simp only[Act.put,zS]
         refine zT 18 (h:=?_)
         try simp only[Act.put,zS]
         refine zT 19 (h:=?_)
         try simp only[Act.put,zS]
         refine zT 20 (h:=?_)
         try simp only[Act.put,zS]
         refine zT 21 (h:=?_)
         try simp only[Act.put,zS]
         refine wpAnyH_take (i:=22) (v:=undef) rfl (by kernel_rfl) (by kernel_rfl) (by kernel_rfl) (fun _ _ _ h=>h) (Or.inr ⟨by rfl,rfl⟩) (by assumption) ?_
         try simp only[Act.put,zS]
         refine wpAnyH_take (i:=23) (v:=undef) rfl (by kernel_rfl) (by kernel_rfl) (by kernel_rfl) (fun _ _ _ h=>h) (Or.inr ⟨by rfl,rfl⟩) (by assumption) ?_
         try simp only[Act.put,zS]
         refine wpAnyH_take (i:=24) (v:=undef) rfl (by kernel_rfl) (by kernel_rfl) (by kernel_rfl) (fun _ _ _ h=>h) (Or.inr ⟨by rfl,rfl⟩) (by assumption) ?_
         try simp only[Act.put,zS]
         refine zT 25 (h:=?_)
         try simp only[Act.put,zS]
         refine zT 26 (h:=?_)
         try simp only[Act.put,zS]
         refine zT 27 (h:=?_)
         try simp only[Act.put,zS]
         refine wpAnyH_ready (rs:=[28]) (by kernel_rfl) (by simp) ?_
         refine AllReadyH.cons rfl (fun K hK=> ?_) ?_
         ·(go_simp;go_at_call 19;refine(lAlive _).mono ?_;rintro e wl ⟨rfl,rfl⟩)
          refine hK.out _ _ ?_ (fun hHeld=> ?_)
          ·exact HQ24.out _ HBC.out
          clear hK K
          try simp only[Act.put,zS]
          refine zT 29 (h:=?_)
          try simp only[Act.put,zS]
          refine wpAnyH_ready (rs:=[30]) (by kernel_rfl) (by simp) ?_
          refine AllReadyH.cons rfl (fun K hK=> ?_) ?_
          ·go_simp
           refine hK.out _ _ ?_ (fun hHeld=> ?_)
           ·exact HQ24.out _ HBC.out
           clear hK K
           try simp only[Act.put,zS]
           refine wpAnyH_done (by kernel_rfl) ?_ _
           go_wp2_with fail
           go_ret
           exact⟨rfl,aA HB12.out HBC.out⟩
          exact AllReadyH.nil
         exact AllReadyH.nil
        exact AllReadyH.nil
       exact AllReadyH.nil
      ·skip
       refine wp_region_held_drew (S:=(fun w' =>(w'.cell? ⟨h13,0,none⟩=some (.int .i64 T.things)∧w'.cell? ⟨h13,1,none⟩=some (.int .i64 T.now.known)∧w'.cell? ⟨h13,2,none⟩=some (.slice A1 n1 c1)∧w'.cell? ⟨h13,3,none⟩=some (.slice B1 m1 d1))∧(w'.cell? ⟨h15,0,none⟩=some (.int .i64 X.things)∧w'.cell? ⟨h15,1,none⟩=some (.int .i64 X.now.known)∧w'.cell? ⟨h15,2,none⟩=some (.slice A n c)∧w'.cell? ⟨h15,3,none⟩=some (.slice B m d))∧(w'.cell? ⟨h19,0,none⟩=some (.int .i64 R.things)∧w'.cell? ⟨h19,1,none⟩=some (.int .i64 R.now.known)∧w'.cell? ⟨h19,2,none⟩=some (.slice A19 n19 c19)∧w'.cell? ⟨h19,3,none⟩=some (.slice B19 m19 d19)))) (by kernel_rfl) ?_ (fun hHeld=> ?_)
       ·exact HK0.out
       refine zT 0 (h:=?_)
       try simp only[Act.put,zS]
       refine zT 1 (h:=?_)
       try simp only[Act.put,zS]
       refine zT 2 (h:=?_)
       try simp only[Act.put,zS]
       refine zT 3 (h:=?_)
       try simp only[Act.put,zS]
       refine zT 4 (h:=?_)
       try simp only[Act.put,zS]
       refine zT 5 (h:=?_)
       try simp only[Act.put,zS]
       refine zT 7 (h:=?_)
       try simp only[Act.put,zS]
       refine zT 8 (h:=?_)
       try simp only[Act.put,zS]
       refine zT 9 (h:=?_)
       try simp only[Act.put,zS]
       refine wpAnyH_ready (rs:=[6]) (by kernel_rfl) (by simp) ?_
       refine AllReadyH.cons rfl (fun K hK=> ?_) ?_
       ·(go_simp;go_at_call 17;refine(HJ24.out _ HBC.out).mono ?_;rintro e wj ⟨rfl,hb⟩;replace HBC:=zH (aA HBC.out hb);clear hb)
        refine hK.out _ _ ?_ (fun hHeld=> ?_)
        ·exact HQ24.out _ HBC.out
        clear hK K
        try simp only[Act.put,zS]
        refine zT 10 (h:=?_)
        try simp only[Act.put,zS]
        refine zT 11 (h:=?_)
        try simp only[Act.put,zS]
        refine zT 12 (h:=?_)
        try simp only[Act.put,zS]
        refine zT 13 (h:=?_)
        try simp only[Act.put,zS]
        refine wpAnyH_ready (rs:=[14]) (by kernel_rfl) (by simp) ?_
        refine AllReadyH.cons rfl (fun K hK=> ?_) ?_
        ·(go_simp;go_at_call 13;refine(HO24.out _ HBC.out).mono ?_;rintro e wo ⟨rfl,hb⟩;replace HBC:=zH (aA HBC.out hb);clear hb)
         refine hK.out _ _ ?_ (fun hHeld=> ?_)
         ·exact HQ24.out _ HBC.out
         clear hK K
         try simp only[Act.put,zS]
         refine zT 15 (h:=?_)
         try simp only[Act.put,zS]
         refine zT 16 (h:=?_)
         try simp only[Act.put,zS]
         refine wpAnyH_take (i:=17) (v:=undef) rfl (by kernel_rfl) (by kernel_rfl) (by kernel_rfl) (fun _ _ _ h=>h) (Or.inr ⟨by rfl,rfl⟩) (by assumption) ?_
         try simp only[Act.put,zS]
         refine wpAnyH_take (i:=18) (v:=undef) rfl (by kernel_rfl) (by kernel_rfl) (by kernel_rfl) (fun _ _ _ h=>h) (Or.inr ⟨by rfl,rfl⟩) (by assumption) ?_
         try simp only[Act.put,zS]
         refine wpAnyH_take (i:=19) (v:=undef) rfl (by kernel_rfl) (by kernel_rfl) (by kernel_rfl) (fun _ _ _ h=>h) (Or.inr ⟨by rfl,rfl⟩) (by assumption) ?_
         try simp only[Act.put,zS]
         refine zT 20 (h:=?_)
         try simp only[Act.put,zS]
         refine zT 21 (h:=?_)
         try simp only[Act.put,zS]
         refine wpAnyH_take (i:=22) (v:=undef) rfl (by kernel_rfl) (by kernel_rfl) (by kernel_rfl) (fun _ _ _ h=>h) (Or.inr ⟨by rfl,rfl⟩) (by assumption) ?_
         try simp only[Act.put,zS]
         refine wpAnyH_take (i:=23) (v:=undef) rfl (by kernel_rfl) (by kernel_rfl) (by kernel_rfl) (fun _ _ _ h=>h) (Or.inr ⟨by rfl,rfl⟩) (by assumption) ?_
         try simp only[Act.put,zS]
         refine wpAnyH_take (i:=24) (v:=undef) rfl (by kernel_rfl) (by kernel_rfl) (by kernel_rfl) (fun _ _ _ h=>h) (Or.inr ⟨by rfl,rfl⟩) (by assumption) ?_
         try simp only[Act.put,zS]
         refine zT 25 (h:=?_)
         try simp only[Act.put,zS]
         refine zT 26 (h:=?_)
         try simp only[Act.put,zS]
         refine zT 27 (h:=?_)
         try simp only[Act.put,zS]
         refine wpAnyH_ready (rs:=[28]) (by kernel_rfl) (by simp) ?_
         refine AllReadyH.cons rfl (fun K hK=> ?_) ?_
         ·(go_simp;go_at_call 19;refine(lAlive _).mono ?_;rintro e wl ⟨rfl,rfl⟩)
          refine hK.out _ _ ?_ (fun hHeld=> ?_)
          ·exact HQ24.out _ HBC.out
          clear hK K
          try simp only[Act.put,zS]
          refine zT 29 (h:=?_)
          try simp only[Act.put,zS]
          refine wpAnyH_ready (rs:=[30]) (by kernel_rfl) (by simp) ?_
          refine AllReadyH.cons rfl (fun K hK=> ?_) ?_
          ·go_simp
           refine hK.out _ _ ?_ (fun hHeld=> ?_)
           ·exact HQ24.out _ HBC.out
           clear hK K
           try simp only[Act.put,zS]
           refine wpAnyH_done (by kernel_rfl) ?_ _
           go_wp2_with fail
           go_ret
           exact⟨rfl,aA HB12.out HBC.out⟩
          exact AllReadyH.nil
         exact AllReadyH.nil
        exact AllReadyH.nil
       exact AllReadyH.nil
end Go.Proofs.YtfhjcacfchkdpaaGreatDoor
