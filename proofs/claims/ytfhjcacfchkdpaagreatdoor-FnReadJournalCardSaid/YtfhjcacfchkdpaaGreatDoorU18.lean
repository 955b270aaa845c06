/-
  What the proofs of this seat's statements share (DedI, DdO, BoxO, RdD, BldI).
-/
import Derived.Deep.RegionHeld3
import Derived.RangeFuncBox
import Derived.Lib.Builder
import Derived.Test.YtfhjcacfchkdpaaGreatDoorU17
set_option maxRecDepth 100000
set_option maxHeartbeats 32000000
namespace Go.Proofs.YtfhjcacfchkdpaaGreatDoor
open Go.RowKit
theorem L0{s:ByteArray}(h:dC (bL s)=true):b8 (0,s)=⟨#[116,101,108,108,32]⟩++s:=gI (by
 rw[lD]
 unfold b8 eV
 rw[kO,if_pos ⟨rfl,h⟩]
 rfl)
theorem NX{s:ByteArray}(h:dC (bL s)=true):b8 (1,s)=⟨#[97,115,107,32]⟩++s:=gI (by
 rw[lD]
 unfold b8 eV
 rw[kO,if_neg (fun h=>absurd (show(1:Int)=0 from h.1) (by decide)),if_pos ⟨rfl,h⟩]
 rfl)
theorem vJ{s:ByteArray}(h:s≠⟨#[]⟩):s.toList.isEmpty=false∧(s.toList==[])=false∧(s.toList != [])=true∧(s.toList==(ByteArray.mk #[]).toList)=false∧(s.toList != (ByteArray.mk #[]).toList)=true:=by
 have h1:s.toList≠[]:=by
  rw[ByteArray.toList_eq]
  intro e
  exact h (ByteArray.ext (Array.toList_inj.mp e))
 have h2:(s.toList==(ByteArray.mk #[]).toList)=false:=lT h
 refine⟨by rw[List.isEmpty_eq_false_iff];exact h1,by rw[beq_eq_false_iff_ne];exact h1,by rw[bne_iff_ne];exact h1,h2,?_⟩
 unfold bne
 rw[h2];rfl
theorem LV(s:ByteArray)(w:World)(hs:s.size≤1048576):
  Calls Tryz.prog 53 #[.string s] w fun e w' =>e= .returned (.bool (dC (bL s)))∧w=w' :=by
 obtain⟨r,HR⟩:∃r,Hid (dC (bL s)=r):=⟨_,rfl⟩
 rw[HR.out]
 have HNO:Hid (∀k,(h:k<s.size)→kX s[k]=false→r=false):=fun k h hi=>by
  rw[←HR.out]
  unfold dC
  have:(bL s).all kX=false:=by
   rw[List.all_eq_false]
   exact⟨s[k],by unfold bL;exact Array.getElem_mem_toList _,by rw[hi];simp⟩
  rw[this,Bool.and_false]
 have HEND:Hid (((bL s).take s.size).all kX=true→r=decide (0<s.size)):=fun h=>by
  rw[←gF,List.take_length] at h
  rw[←HR.out]
  unfold dC
  rw[h,Bool.and_true,←gF]
  cases bL s<;>simp
 by_cases he:s=⟨#[]⟩
 ·have hr:r=false:=by rw[←HR.out,he];rfl
  subst he hr
  clear HNO HEND HR hs
  go_enter Tryz.func53,Tryz.ntmps53
  go_wp2
  refine wp_loop_rounds 1 ?_
  rw[rounds_succ]
  go_wp2
  go_ret
  exact⟨rfl,rfl⟩
 obtain⟨hn1,hn2,hn3,hn4,hn5⟩:=vJ he
 clear he
 go_enter Tryz.func53,Tryz.ntmps53
 go_wp2
 go_loop [6] (fun i=>∃k:Nat,k≤s.size∧i= .int .i64 k∧Hid (((bL s).take k).all kX=true)) (fun i=>s.size-(Go.RowKit.intOf i).toNat)
 case atStart=>exact⟨0,Nat.zero_le _,rfl,rfl⟩
 case round=>
  obtain⟨k,hk,rfl,hall⟩:=hrel
  by_cases hlt:k<s.size
  ·have hd:(k:Int)<(s.size:Int):=by omega
   have hd0:(0:Int)≤(k:Int):=by omega
   have hn:=GD hlt
   rw[hall.out,Bool.true_and] at hn
   have hib:=G7 s[k]
   have HNK:=HNO.out k hlt
   obtain⟨c,hc⟩:∃c,s[k].toNat=c:=⟨_,rfl⟩
   rw[hc] at hib
   have hc256:c<256:=by rw[←hc];exact UInt8.toNat_lt _
   by_cases h32:c<32
   ·have hF:Hid (r=false):=HNK (by rw[hib,decide_eq_false (by omega:¬(32:Int)≤(c:Int))];rfl)
    have hci:decide ((c:Int)<32)=true:=decide_eq_true (by omega)
    clear hn hib HNK
    go_wp2
    go_ret
    exact⟨aM hF.out.symm,rfl⟩
   ·have hci:decide ((c:Int)<32)=false:=decide_eq_false (by omega)
    by_cases h126:126<c
    ·have hF:Hid (r=false):=HNK (by rw[hib,decide_eq_false (by omega:¬(c:Int)≤126),Bool.and_false])
     have hci2:decide ((126:Int)<(c:Int))=true:=decide_eq_true (by omega)
     clear hn hib HNK
     go_wp2
     go_ret
     exact⟨aM hF.out.symm,rfl⟩
    ·have hci2:decide ((126:Int)<(c:Int))=false:=decide_eq_false (by omega)
     have HT:Hid (((bL s).take (k+1)).all kX=true):=by
      unfold Hid
      rw[hn,hib,decide_eq_true (by omega:(32:Int)≤(c:Int)),decide_eq_true (by omega:(c:Int)≤126)];rfl
     clear hn hib HNK
     go_wp2
     go_round
     case rel=>exact⟨k+1,by omega,by go_num,HT⟩
     case measure=>simp[Go.RowKit.intOf];omega
  ·obtain rfl:k=s.size:=by omega
   have HE:=zH (HEND.out hall.out)
   have HP:Hid (0<s.size):=by
    show 0<s.size
    rw[←gF]
    rw[ByteArray.toList_eq,List.isEmpty_eq_false_iff] at hn1
    exact List.length_pos_iff.2 hn1
   go_wp2
   go_ret
   exact⟨aM (by rw[HE.out,decide_eq_true HP.out]),rfl⟩
theorem wS(k:Int)(s:ByteArray)(w:World)(hs:s.size≤1048576):
  Calls Tryz.prog 15 #[.agg #[.int .i64 k,.string s]] w fun e w' =>e= .returned (.string (b8 (k,s)))∧Below w.heap.size w w' :=by
 obtain⟨W,hW⟩:∃W,w.alloc (.cells #[.int .i64 k,.string s] 41)=W:=⟨_,rfl⟩
 have HB:Hid (Below w.heap.size w W):=by rw[←hW];exact(Below.refl _ _).alloc (Nat.le_refl _) _
 obtain⟨hc0,hc1⟩:=nZ.cells (nZ.new w k s)
 have HW:=zH hW
 obtain⟨p,HP⟩:∃p,Hid (dC (bL s)=p):=⟨_,rfl⟩
 have HPL:Hid (∀w:World,Calls Tryz.prog 53 #[.string s] w fun e w' =>e= .returned (.bool p)∧w=w'):=fun w=>by
  have:=LV s w hs
  rw[HP.out] at this;exact this
 clear hW
 by_cases h0:k=0∨k=1
 ·cases p
  ·have HN:Hid (b8 (k,s)=⟨#[]⟩):=mF (fun h=>by rw[HP.out] at h;exact absurd h.2 (by decide)) (by omega)
   rw[HN.out]
   rcases h0 with rfl|rfl
   ·go_enter Tryz.func15,Tryz.ntmps15
    go_wp2_with (go_at_call 53;refine(HPL.out _).mono ?_;rintro e w' ⟨rfl,rfl⟩)
    go_ret
    exact⟨rfl,by rw[HW.out];exact HB.out⟩
   ·go_enter Tryz.func15,Tryz.ntmps15
    go_wp2_with (go_at_call 53;refine(HPL.out _).mono ?_;rintro e w' ⟨rfl,rfl⟩)
    go_ret
    exact⟨rfl,by rw[HW.out];exact HB.out⟩
  ·have HPT:dC (bL s)=true:=HP.out
   have hz5:(9223372036854775807<5+s.size)=False:=by simp;omega
   have hz5b:(9223372036854775807<4+s.size)=False:=by simp;omega
   rcases h0 with rfl|rfl
   ·rw[L0 HPT]
    clear HPT
    go_enter Tryz.func15,Tryz.ntmps15
    go_wp2_with (go_at_call 53;refine(HPL.out _).mono ?_;rintro e w' ⟨rfl,rfl⟩)
    go_ret
    exact⟨rfl,by rw[HW.out];exact HB.out⟩
   ·rw[NX HPT]
    clear HPT
    go_enter Tryz.func15,Tryz.ntmps15
    go_wp2_with (go_at_call 53;refine(HPL.out _).mono ?_;rintro e w' ⟨rfl,rfl⟩)
    go_ret
    exact⟨rfl,by rw[HW.out];exact HB.out⟩
 ·have hk0:(k==0)=false:=by rw[beq_eq_false_iff_ne];omega
  have hk1:(k==1)=false:=by rw[beq_eq_false_iff_ne];omega
  by_cases h2:k=2
  ·subst h2
   by_cases he:s=⟨#[]⟩
   ·subst he
    rw[CP]
    go_enter Tryz.func15,Tryz.ntmps15
    go_wp2_with fail
    go_ret
    exact⟨rfl,by rw[HW.out];exact HB.out⟩
   ·have HN:Hid (b8 (2,s)=⟨#[]⟩):=mF (fun h=>by omega) (fun h=>he (gI h.2))
    rw[HN.out]
    obtain⟨hn1,hn2,hn3,hn4,hn5⟩:=vJ he
    clear he
    go_enter Tryz.func15,Tryz.ntmps15
    go_wp2_with fail
    go_ret
    exact⟨rfl,by rw[HW.out];exact HB.out⟩
  ·have HN:Hid (b8 (k,s)=⟨#[]⟩):=mF (fun h=>h0 h.1) (fun h=>h2 h.1)
   rw[HN.out]
   have hkb:(k==2)=false:=by rw[beq_eq_false_iff_ne];exact h2
   clear h2 h0
   go_enter Tryz.func15,Tryz.ntmps15
   go_wp2_with fail
   go_ret
   exact⟨rfl,by rw[HW.out];exact HB.out⟩
abbrev bK:=Int×ByteArray
def i7(w:World)(A:Option Addr)(ds:List bK):Prop:=
 0<ds.length→∃b off,A=some ⟨b,off,none⟩∧b<w.heap.size∧∀(i:Nat) (d:bK),ds[i]? =some d→w.cell? ⟨b,off+i*2,none⟩=some (.int .i64 d.1)∧w.cell? ⟨b,off+i*2+1,none⟩=some (.string d.2)
theorem i7.nil(w:World)(A:Option Addr):i7 w A []:=fun h=>absurd h (by simp)
theorem i7.below{w w' :World}{A:Option Addr}{ds:List bK}(h:i7 w A ds)(hb:Below w.heap.size w w'):i7 w' A ds:=by
 intro hn
 obtain⟨b,off,rfl,hlt,hc⟩:=h hn
 have:=hb.size
 refine⟨b,off,rfl,by omega,fun i d hd=> ?_⟩
 obtain⟨h1,h2⟩:=hc i d hd
 exact⟨(hb.cell (p:=⟨b,off+i*2,none⟩) hlt).trans h1,(hb.cell (p:=⟨b,off+i*2+1,none⟩) hlt).trans h2⟩
theorem i7.grown{w w' :World}{A:Option Addr}{ds:List bK}{row:Option Nat}(h:i7 w A ds)(hg:w.grownBy w' row)(hr:∀ad,A=some ad→some ad.block≠row):i7 w' A ds:=by
 intro hn
 obtain⟨b,off,rfl,hlt,hc⟩:=h hn
 have:=hg.size
 refine⟨b,off,rfl,by omega,fun i d hd=> ?_⟩
 obtain⟨h1,h2⟩:=hc i d hd
 have hbk:=hg.block b hlt (hr _ rfl)
 exact⟨(World.cell?_of_block hbk).trans h1,(World.cell?_of_block hbk).trans h2⟩
structure sA (w:World) (A:Option Addr) (n c:Nat) (ds:List bK):Prop where
 hn:n=ds.length
 hl:n≤1048576
 hc:n≤c
 hm:c≤maxLen
 hA:i7 w A ds
theorem sA.below{w w' :World}{A:Option Addr}{n c:Nat}{ds:List bK}(h:sA w A n c ds)(hb:Below w.heap.size w w'):sA w' A n c ds:=⟨h.hn,h.hl,h.hc,h.hm,h.hA.below hb⟩
theorem sA.drewN{w:World}{A:Option Addr}{n c:Nat}{ds:List bK}(h:sA w A n c ds)(m:Nat):sA (w.drewN m) A n c ds:=⟨h.hn,h.hl,h.hc,h.hm,h.hA⟩
theorem i7.elem{w:World}{A:Option Addr}{ds:List bK}(h:i7 w A ds){i:Nat}(hi:i<ds.length):
  ∃b off f g,A=some ⟨b,off,none⟩∧w.cell? ⟨b,off+i*2,none⟩=some (.int .i64 f)∧w.cell? ⟨b,off+i*2+1,none⟩=some (.string g)∧Hid (ds[i]? =some (f,g))∧Hid (b<w.heap.size):=by
 obtain⟨b,off,rfl,hlt,hc⟩:=h (by omega)
 obtain⟨d,hd⟩:∃d,ds[i]? =some d:=⟨_,List.getElem?_eq_getElem hi⟩
 obtain⟨h1,h2⟩:=hc i d hd
 exact⟨b,off,d.1,d.2,rfl,h1,h2,hd,hlt⟩
theorem vU{ds:List bK}{i:Nat}{d:bK}(h:Hid (ds[i]? =some d)):d∈ds:=List.mem_of_getElem? h.out
def nG(ds:List bK):List Value:=ds.flatMap fun d=>[.int .i64 d.1,.string d.2]
theorem MA(d:bK)(ds:List bK):nG (d::ds)= .int .i64 d.1:: .string d.2::nG ds:=rfl
theorem BL(ds:List bK)(d:bK):nG (ds++[d])=nG ds++[.int .i64 d.1,.string d.2]:=by
 unfold nG;rw[List.flatMap_append];rfl
theorem GL:∀{ds:List bK} {i:Nat} {d:bK},ds[i]? =some d→(nG ds)[i*2]? =some (.int .i64 d.1)∧(nG ds)[i*2+1]? =some (.string d.2)
 |[],i,d,h=>by simp at h
 |x::ds,0,d,h=>by
  rw[List.getElem?_cons_zero] at h
  cases h
  exact⟨rfl,rfl⟩
 |x::ds,i+1,d,h=>by
  rw[List.getElem?_cons_succ] at h
  obtain⟨h1,h2⟩:=GL h
  rw[MA,show(i+1)*2=i*2+1+1 by omega]
  simp only[List.getElem?_cons_succ]
  exact⟨h1,h2⟩
theorem u9:(Tryz.prog.info? 41).map (fun i=>(i.zero,i.size,i.bytes))=some (some (.agg #[.int .i64 0,.string ByteArray.empty]),2,24):=by kernel_rfl
def bU(w:World)(base:Nat)(v:Value)(ds:List bK):Prop:=w.ownsRow base 41 2 v ds.length (nG ds)
theorem bU.form{w:World}{base:Nat}{v:Value}{ds:List bK}(h:bU w base v ds):
  ∃A c,v= .slice A ds.length c∧ds.length≤c∧c≤maxLen∧i7 w A ds∧(∀ad,A=some ad→base≤ad.block∧ad.block<w.heap.size):=by
 have hcells:=fun g=>World.ownsRow.cells h (g:=g)
 rcases h.2 with⟨rfl,hl⟩|⟨g,cap,cur,rfl,hb,hg,hn,hm,_,_⟩
 ·exact⟨none,0,by rw[hl],by omega,by simp[maxLen],fun hp=>absurd hp (by omega),fun ad h=>by cases h⟩
 ·have hlt:g<w.heap.size:=(Array.getElem?_eq_some_iff.1 hg).1
  refine⟨some ⟨g,0,none⟩,cap,rfl,hn,hm,fun hp=>⟨g,0,rfl,hlt,fun i d hd=> ?_⟩,fun ad h=>by cases h;exact⟨hb,hlt⟩⟩
  obtain⟨h1,h2⟩:=GL hd
  have e1:(⟨g,0,none⟩:Addr).add (i*2)=⟨g,0+i*2,none⟩:=by unfold Addr.add;split<;>simp_all
  have e2:(⟨g,0,none⟩:Addr).add (i*2+1)=⟨g,0+i*2+1,none⟩:=by unfold Addr.add;split<;>simp_all;try omega
  have h1:=hcells g rfl _ _ h1
  have h2:=hcells g rfl _ _ h2
  rw[e1] at h1
  rw[e2] at h2
  exact⟨h1,h2⟩
theorem bU.row{w:World}{base:Nat}{A:Option Addr}{n c:Nat}{ds:List bK}(h:bU w base (.slice A n c) ds)(hl:ds.length≤1048576):sA w A n c ds:=by
 obtain⟨A',c',e,hc,hm,hn,_⟩:=h.form
 simp only[Value.slice.injEq] at e
 obtain⟨rfl,rfl,rfl⟩:=e
 exact⟨rfl,hl,hc,hm,hn⟩
theorem bU.below{w w' :World}{base:Nat}{v:Value}{ds:List bK}(h:bU w base v ds)(hb:Below w.heap.size w w'):bU w' base v ds:=
 World.ownsRow.kept (row:=none) h ⟨hb.os,hb.tape,hb.output,hb.size,fun k hk _=>hb.block k hk⟩ (by cases v.ownBlock<;>simp)
theorem bU.drewN{w:World}{base:Nat}{v:Value}{ds:List bK}(h:bU w base v ds)(n:Nat):bU (w.drewN n) base v ds:=h
theorem bU.kept{w w' :World}{base:Nat}{v:Value}{ds:List bK}(h:bU w base v ds){row:Option Nat}(hg:w.grownBy w' row)(hne:v.ownBlock=none∨v.ownBlock≠row):bU w' base v ds:=
 World.ownsRow.kept h hg hne
theorem bU.base{w:World}{base base' :Nat}{v:Value}{ds:List bK}(h:bU w base v ds)(hb:base'≤base):bU w base' v ds:=by
 refine⟨h.1,?_⟩
 rcases h.2 with h|⟨g,cap,cur,h1,h2,h3⟩
 ·exact .inl h
 ·exact .inr ⟨g,cap,cur,h1,by omega,h3⟩
theorem bU.nil(w:World)(base:Nat):bU w base (.slice none 0 0) []:=World.ownsRow_nil w base _ 2
theorem bU.lit0(w:World)(base:Nat)(hb:base≤w.heap.size):bU (w.alloc (.cells #[] 41)) base (.slice (some ⟨w.heap.size,0,none⟩) 0 0) []:=by
 have h:=World.ownsRow_lit (base:=base) (e:=41) (size:=2) w #[] 0 hb (by simp[maxLen]) (by simp)
 simpa [bU,nG] using h
theorem bU.lit1(w:World)(base:Nat)(hb:base≤w.heap.size)(k:Int)(s:ByteArray):bU (w.alloc (.cells #[.int .i64 k,.string s] 41)) base (.slice (some ⟨w.heap.size,0,none⟩) 1 1) [(k,s)]:=by
 have h:=World.ownsRow_lit (base:=base) (e:=41) (size:=2) w #[.int .i64 k,.string s] 1 hb (by simp[maxLen]) (by simp)
 simpa [bU,nG] using h
theorem nW{W:World}{ops:Array Oper}{rest:List Oper}{o:Oper}{a:Act}{Q:Exit→Act→World→Prop}(hgd:o.guard=none)(s x:Operand)
  (ho:o.op= .call {callee:= .builtin .append,args:= #[s,x],argTypes:= #[24,24]}) (base:Nat) (v:Value) (ds:List bK) (hs:a.eval s=v) (hown:bU W base v ds)
  (f:Int) (g:ByteArray) (hx:a.eval x= .slice (some ⟨W.heap.size,0,none⟩) 1 1) (hl:ds.length≤1048576) (hb:base≤W.heap.size)
  (h:∀v' w',bU w' base v' (ds++[(f,g)])→(W.alloc (.cells #[.int .i64 f,.string g] 41)).grownBy w' v.ownBlock→wpList Tryz.prog ops Q rest (a.put o.dst v') w'):
  wpList Tryz.prog ops Q (o::rest) a (W.alloc (.cells #[.int .i64 f,.string g] 41)):=by
 obtain⟨i0,hi0,hz0,hz1,hz2⟩:=info_parts u9
 refine wpList_append_own _ hgd s x 24 ho base 41 i0 (.agg #[.int .i64 0,.string ByteArray.empty]) 2 24 Tryz.underlying24 hi0 hz0 hz1 hz2 rfl (by decide) v ds.length (nG ds) hs (World.ownsRow.alloc hown _)
  ⟨W.heap.size,0,none⟩ 1 1 [.int .i64 f,.string g] hx rfl ?_ (fun u hu=>by
   rw[List.mem_cons,List.mem_singleton] at hu
   rcases hu with rfl|rfl<;>rfl) (by simp only[maxLen];omega) (by omega) (by rw[World.size_alloc];omega) ?_
 ·exact cell_two_new _ _ _ _
 intro v' w' h1 h2 _
 refine h v' w' ?_ h2
 unfold bU
 rw[BL]
 simpa using h1
theorem lS{B:Nat}{a W w' :World}{base:Nat}{v:Value}{ds:List bK}{o:Obj}(h:Below B a W)(hB:B≤W.heap.size)(hown:bU W base v ds)(hbase:B≤base)(hg:(W.alloc o).grownBy w' v.ownBlock):Below B a w' :=
 (h.alloc hB o).grown hg (by simp;omega) fun k e=>by have:=(World.ownsRow.lt hown k e).1;omega
end Go.Proofs.YtfhjcacfchkdpaaGreatDoor
namespace Go.Proofs.YtfhjcacfchkdpaaGreatDoor
open Go.RowKit
def aD(W:World)(b:Nat)(T:TypeId)(cs:List Value):Prop:=W.heap[b]? =some (.cells cs.toArray T (0,0))
section
variable {W W' :World} {b:Nat} {T:TypeId} {cs:List Value}
theorem aD.new(W:World)(T:TypeId)(cs:List Value):aD (W.alloc (.cells cs.toArray T)) W.heap.size T cs:=World.alloc_heap_new W _
theorem aD.lt(h:aD W b T cs):b<W.heap.size:=(Array.getElem?_eq_some_iff.1 h).1
theorem aD.alloc(h:aD W b T cs)(o:Obj):aD (W.alloc o) b T cs:=(Below.heap_alloc W o b h.lt).trans h
theorem aD.grown{g:Nat}(h:aD W b T cs)(hg:W.grownBy W' (some g))(hne:g≠b):aD W' b T cs:=
 (hg.block b h.lt (by simp;omega)).trans h
theorem aD.below(h:aD W b T cs)(hb:Below W.heap.size W W'):aD W' b T cs:=(hb.block b h.lt).trans h
theorem aD.drewN(h:aD W b T cs)(n:Nat):aD (W.drewN n) b T cs:=h
theorem aD.drew(h:aD W b T cs):aD W.drew b T cs:=h
theorem aD.cell(h:aD W b T cs){i:Nat}{v:Value}(hv:cs[i]? =some v):W.cell? ⟨b,i,none⟩=some v:=by
 unfold aD at h
 simp[World.cell?,h,hv]
theorem aD.frozen(h:aD W b T cs)(i:Nat):W.frozen? ⟨b,i,none⟩=false:=by
 unfold aD at h
 simp[World.frozen?,h]
theorem aD.set(h:aD W b T cs)(i:Nat)(v:Value):aD (W.setCell ⟨b,i,none⟩ v) b T (cs.set i v):=by
 unfold aD at*
 simp[World.setCell,Array.getElem?_modify,h]
theorem aD.other{a i:Nat}(h:aD W b T cs)(hne:a≠b)(v:Value):aD (W.setCell ⟨a,i,none⟩ v) b T cs:=
 (Below.heap_setCell W ⟨a,i,none⟩ v b (fun e=>hne e.symm)).trans h
theorem aD.store2{x y:Value}(h:aD W b T [x,y])(u v:Value):
  (W.cell? ⟨b,0,none⟩=some x∧W.cell? ⟨b,1,none⟩=some y∧W.frozen? ⟨b,0,none⟩=false∧W.frozen? ⟨b,1,none⟩=false)∧
  ((W.setCell ⟨b,0,none⟩ u).cell? ⟨b,1,none⟩=some y∧(W.setCell ⟨b,0,none⟩ u).frozen? ⟨b,1,none⟩=false)∧
  Hid (aD ((W.setCell ⟨b,0,none⟩ u).setCell ⟨b,1,none⟩ v) b T [u,v]):=
 ⟨⟨h.cell rfl,h.cell rfl,h.frozen 0,h.frozen 1⟩,⟨(h.set 0 u).cell rfl,(h.set 0 u).frozen 1⟩,(h.set 0 u).set 1 v⟩
theorem aD.store4{x y z p:Value}(h:aD W b T [x,y,z,p])(u v r q:Value):
  (W.cell? ⟨b,0,none⟩=some x∧W.cell? ⟨b,1,none⟩=some y∧W.cell? ⟨b,2,none⟩=some z∧W.cell? ⟨b,3,none⟩=some p∧W.frozen? ⟨b,0,none⟩=false∧W.frozen? ⟨b,1,none⟩=false∧W.frozen? ⟨b,2,none⟩=false∧W.frozen? ⟨b,3,none⟩=false)∧
  ((W.setCell ⟨b,0,none⟩ u).cell? ⟨b,1,none⟩=some y∧(W.setCell ⟨b,0,none⟩ u).frozen? ⟨b,1,none⟩=false)∧
  (((W.setCell ⟨b,0,none⟩ u).setCell ⟨b,1,none⟩ v).cell? ⟨b,2,none⟩=some z∧((W.setCell ⟨b,0,none⟩ u).setCell ⟨b,1,none⟩ v).frozen? ⟨b,2,none⟩=false)∧
  ((((W.setCell ⟨b,0,none⟩ u).setCell ⟨b,1,none⟩ v).setCell ⟨b,2,none⟩ r).cell? ⟨b,3,none⟩=some p∧(((W.setCell ⟨b,0,none⟩ u).setCell ⟨b,1,none⟩ v).setCell ⟨b,2,none⟩ r).frozen? ⟨b,3,none⟩=false)∧
  Hid (aD ((((W.setCell ⟨b,0,none⟩ u).setCell ⟨b,1,none⟩ v).setCell ⟨b,2,none⟩ r).setCell ⟨b,3,none⟩ q) b T [u,v,r,q]):=
 ⟨⟨h.cell rfl,h.cell rfl,h.cell rfl,h.cell rfl,h.frozen 0,h.frozen 1,h.frozen 2,h.frozen 3⟩,⟨(h.set 0 u).cell rfl,(h.set 0 u).frozen 1⟩,⟨((h.set 0 u).set 1 v).cell rfl,((h.set 0 u).set 1 v).frozen 2⟩,⟨(((h.set 0 u).set 1 v).set 2 r).cell rfl,(((h.set 0 u).set 1 v).set 2 r).frozen 3⟩,(((h.set 0 u).set 1 v).set 2 r).set 3 q⟩
end
theorem aD.grownO{W W' :World}{b:Nat}{T:TypeId}{cs:List Value}{row:Option Nat}(h:aD W b T cs)(hg:W.grownBy W' row)(hne:∀k,row=some k→k≠b):aD W' b T cs:=
 (hg.block b h.lt (fun e=>hne b e.symm rfl)).trans h
theorem aD.other2{W:World}{b g:Nat}{T:TypeId}{cs:List Value}(h:aD W b T cs)(hne:g≠b)(u v:Value):aD ((W.setCell ⟨g,0,none⟩ u).setCell ⟨g,1,none⟩ v) b T cs:=(h.other hne u).other hne v
theorem aD.other4{W:World}{b g:Nat}{T:TypeId}{cs:List Value}(h:aD W b T cs)(hne:g≠b)(u v r q:Value):aD ((((W.setCell ⟨g,0,none⟩ u).setCell ⟨g,1,none⟩ v).setCell ⟨g,2,none⟩ r).setCell ⟨g,3,none⟩ q) b T cs:=(((h.other hne u).other hne v).other hne r).other hne q
theorem fN{B:Nat}{w W:World}{b:Nat}(h:Below B w W)(hb:B≤b)(u v:Value):Below B w ((W.setCell ⟨b,0,none⟩ u).setCell ⟨b,1,none⟩ v):=
 (h.setCell (p:=⟨b,0,none⟩) hb _).setCell (p:=⟨b,1,none⟩) hb _
theorem bG{B:Nat}{w W:World}{b:Nat}(h:Below B w W)(hb:B≤b)(u v r q:Value):Below B w ((((W.setCell ⟨b,0,none⟩ u).setCell ⟨b,1,none⟩ v).setCell ⟨b,2,none⟩ r).setCell ⟨b,3,none⟩ q):=
 (((h.setCell (p:=⟨b,0,none⟩) hb _).setCell (p:=⟨b,1,none⟩) hb _).setCell (p:=⟨b,2,none⟩) hb _).setCell (p:=⟨b,3,none⟩) hb _
theorem iK{fn:Func}{r:Tmp}(h:fn.results= #[.cell r 41]){tmps:Array Value}{w:World}{b:Nat}{x y:Value}(ht:tmps.getD r undef= .pointer (some ⟨b,0,none⟩))
  (hb:Hid (aD w b 41 [x,y])):(results fn tmps).run Tryz.prog w= .ok (.agg #[x,y]) w:=by
 have ht:tmps[r]?.getD undef= .pointer (some ⟨b,0,none⟩):=by simpa using ht
 have hc0:=hb.out.cell (i:=0) (v:=x) rfl
 have hc1:=hb.out.cell (i:=1) (v:=y) rfl
 simp[results,h,ht,go_sem,hc0,hc1]
theorem dK{fn:Func}{r q:Tmp}(h:fn.results= #[.cell r 41,.tmp q]){tmps:Array Value}{w:World}{b:Nat}{x y v:Value}(ht:tmps.getD r undef= .pointer (some ⟨b,0,none⟩))(hv:tmps.getD q undef=v)
  (hb:Hid (aD w b 41 [x,y])):(results fn tmps).run Tryz.prog w= .ok (.tuple #[.agg #[x,y],v]) w:=by
 have ht:tmps[r]?.getD undef= .pointer (some ⟨b,0,none⟩):=by simpa using ht
 have hv:tmps[q]?.getD undef=v:=by simpa using hv
 have hc0:=hb.out.cell (i:=0) (v:=x) rfl
 have hc1:=hb.out.cell (i:=1) (v:=y) rfl
 simp[results,h,ht,hv,go_sem,hc0,hc1]
theorem uY{fn:Func}{r:Tmp}(h:fn.results= #[.cell r 30]){tmps:Array Value}{w:World}{b:Nat}{x y:Value}(ht:tmps.getD r undef= .pointer (some ⟨b,0,none⟩))
  (hb:Hid (aD w b 30 [x,y])):(results fn tmps).run Tryz.prog w= .ok (.agg #[x,y]) w:=by
 have ht:tmps[r]?.getD undef= .pointer (some ⟨b,0,none⟩):=by simpa using ht
 have hc0:=hb.out.cell (i:=0) (v:=x) rfl
 have hc1:=hb.out.cell (i:=1) (v:=y) rfl
 simp[results,h,ht,go_sem,hc0,hc1]
theorem gV{fn:Func}{r:Tmp}(h:fn.results= #[.cell r 33]){tmps:Array Value}{w:World}{b:Nat}{x y z p:Value}(ht:tmps.getD r undef= .pointer (some ⟨b,0,none⟩))
  (hb:Hid (aD w b 33 [x,y,z,p])):(results fn tmps).run Tryz.prog w= .ok (.agg #[x,y,z,p]) w:=by
 have ht:tmps[r]?.getD undef= .pointer (some ⟨b,0,none⟩):=by simpa using ht
 have hc0:=hb.out.cell (i:=0) (v:=x) rfl
 have hc1:=hb.out.cell (i:=1) (v:=y) rfl
 have hc2:=hb.out.cell (i:=2) (v:=z) rfl
 have hc3:=hb.out.cell (i:=3) (v:=p) rfl
 simp[results,h,ht,go_sem,hc0,hc1,hc2,hc3]
theorem aU{fn:Func}{r q:Tmp}(h:fn.results= #[.cell r 33,.tmp q]){tmps:Array Value}{w:World}{b:Nat}{x y z p v:Value}(ht:tmps.getD r undef= .pointer (some ⟨b,0,none⟩))(hv:tmps.getD q undef=v)
  (hb:Hid (aD w b 33 [x,y,z,p])):(results fn tmps).run Tryz.prog w= .ok (.tuple #[.agg #[x,y,z,p],v]) w:=by
 have ht:tmps[r]?.getD undef= .pointer (some ⟨b,0,none⟩):=by simpa using ht
 have hv:tmps[q]?.getD undef=v:=by simpa using hv
 have hc0:=hb.out.cell (i:=0) (v:=x) rfl
 have hc1:=hb.out.cell (i:=1) (v:=y) rfl
 have hc2:=hb.out.cell (i:=2) (v:=z) rfl
 have hc3:=hb.out.cell (i:=3) (v:=p) rfl
 simp[results,h,ht,hv,go_sem,hc0,hc1,hc2,hc3]
end Go.Proofs.YtfhjcacfchkdpaaGreatDoor
namespace Go.Proofs.YtfhjcacfchkdpaaGreatDoor
open Go.RowKit
def eT(s:ByteArray):Int×ByteArray:=
 if(bL s).take 5=i1 then(0,cJ ((bL s).drop 5)) else if(bL s).take 4=lH then(1,cJ ((bL s).drop 4)) else(2,cJ [])
theorem R3:bL (b8 (2,cJ []))=uJ:=rfl
theorem wK(s:ByteArray):jN s=if b8 (eT s)=s then some (eT s) else none:=by
 split
 ·rename_i h
  refine p4.2 ⟨h,fun he=> ?_⟩
  have h2:=congrArg bL h
  unfold eT at h2
  rw[he] at h2
  simp only[List.take_nil] at h2
  rw[if_neg (by decide),if_neg (by decide),R3] at h2
  exact absurd h2 (by decide)
 ·rename_i h
  cases hr:jN s with
  |none=>rfl
  |some d=>
   exfalso
   obtain⟨h1,h2⟩:=p4.1 hr
   apply h
   obtain⟨k,x⟩:=d
   have h1' :eV ⟨k,bL x⟩=bL s:=by have:=congrArg bL h1;unfold b8 at this;rw[kO] at this;exact this
   have key:eT s=(k,x):=by
    unfold eV at h1'
    by_cases h0:k=0∧dC (bL x)=true
    ·rw[if_pos h0] at h1'
     unfold eT
     rw[←h1',if_pos (by simp[i1])]
     simp[i1,h0.1]
     exact r7 x
    ·rw[if_neg h0] at h1'
     by_cases h3:k=1∧dC (bL x)=true
     ·rw[if_pos h3] at h1'
      unfold eT
      rw[←h1',if_neg (by simp[lH,i1]),if_pos (by simp[lH])]
      simp[lH,h3.1]
      exact r7 x
     ·rw[if_neg h3] at h1'
      by_cases h4:(⟨k,bL x⟩:Dd)=⟨2,[]⟩
      ·rw[if_pos h4] at h1'
       unfold eT
       rw[←h1',if_neg (by decide),if_neg (by decide)]
       injection h4 with a b
       rw[←b,a];exact Prod.ext rfl (by exact r7 x)
      ·rw[if_neg h4] at h1'
       exact absurd h1'.symm h2
   rw[key];exact h1
def dZ(s:ByteArray):Int×ByteArray:=(jN s).getD (0,⟨#[]⟩)
def fW(s:ByteArray):Bool:=(jN s).isSome
theorem OX{s:ByteArray}(h:b8 (eT s)=s):dZ s=eT s∧fW s=true:=by
 unfold dZ fW;rw[wK,if_pos h];exact⟨rfl,rfl⟩
theorem MK{s:ByteArray}(h:b8 (eT s)≠s):dZ s=(0,⟨#[]⟩)∧fW s=false:=by
 unfold dZ fW;rw[wK,if_neg h];exact⟨rfl,rfl⟩
theorem EX{l p:List UInt8}:Lib.hasPrefix l p=decide (l.take p.length=p):=by
 unfold Lib.hasPrefix
 rw[Bool.eq_iff_iff,List.isPrefixOf_iff_prefix,decide_eq_true_iff,List.prefix_iff_eq_take]
 exact⟨fun h=>h.symm,fun h=>h.symm⟩
def xU:ByteArray:=⟨#[116,101,108,108,32]⟩
def BX:ByteArray:=⟨#[97,115,107,32]⟩
theorem FH{s t:ByteArray}(p:ByteArray)(h:Hid ((bL s).take p.size=bL p∧t=cJ ((bL s).drop p.size)))(w:World):
  Calls Tryz.prog 86 #[.string s,.string p] w fun e w' =>e= .returned (.tuple #[.string t,.bool true])∧w=w' :=by
 refine(Tryz.strings_CutPrefix s p w).mono ?_
 rintro e w' ⟨rfl,rfl⟩
 have hp:Lib.hasPrefix s.data.toList p.data.toList=true:=by
  rw[EX]
  exact decide_eq_true h.out.1
 rw[h.out.2]
 unfold Lib.trimPrefix
 rw[hp,if_pos rfl]
 exact⟨rfl,rfl⟩
theorem CB{s:ByteArray}(p:ByteArray)(h:Hid (¬(bL s).take p.size=bL p))(w:World):
  Calls Tryz.prog 86 #[.string s,.string p] w fun e w' =>e= .returned (.tuple #[.string s,.bool false])∧w=w' :=by
 refine(Tryz.strings_CutPrefix s p w).mono ?_
 rintro e w' ⟨rfl,rfl⟩
 have hp:Lib.hasPrefix s.data.toList p.data.toList=false:=by
  rw[EX]
  exact decide_eq_false h.out
 unfold Lib.trimPrefix
 rw[hp,if_neg (by simp)]
 exact⟨rfl,rfl⟩
theorem rP(s:ByteArray)(n:Nat):(cJ ((bL s).drop n)).size≤s.size:=by
 rw[←gF,kO,List.length_drop,←gF];omega
theorem C4(s:ByteArray):(eT s).2.size≤s.size:=by
 unfold eT;split
 ·exact rP s 5
 split
 ·exact rP s 4
 ·exact Nat.zero_le _
theorem wC(w:World)(T:TypeId)(xs ys:List Value):
  Hid (aD ((w.alloc (.cells xs.toArray T)).alloc (.cells ys.toArray T)) w.heap.size T xs)∧Hid (aD ((w.alloc (.cells xs.toArray T)).alloc (.cells ys.toArray T)) (w.heap.size+1) T ys)∧
  Hid (Below w.heap.size w ((w.alloc (.cells xs.toArray T)).alloc (.cells ys.toArray T))):=by
 refine⟨(aD.new w T xs).alloc _,?_,((Below.refl _ _).alloc (Nat.le_refl _) _).alloc (by rw[World.size_alloc];omega) _⟩
 have:=aD.new (w.alloc (.cells xs.toArray T)) T ys
 rw[World.size_alloc] at this
 exact this
theorem wG(s:ByteArray)(w:World)(hs:s.size≤1048576):
  Calls Tryz.prog 44 #[.string s] w fun e w' =>e= .returned (.tuple #[.agg #[.int .i64 (dZ s).1,.string (dZ s).2],.bool (fW s)])∧Below w.heap.size w w' :=by
 have HCS:=zH (C4 s)
 have HRY:=zH (OX (s:=s))
 have HRN:=zH (MK (s:=s))
 have H5:Hid ((bL s).take 5=i1→(bL s).take xU.size=bL xU∧cJ ((bL s).drop 5)=cJ ((bL s).drop xU.size)):=fun h=>⟨h,rfl⟩
 have H5n:Hid (¬(bL s).take 5=i1→¬(bL s).take xU.size=bL xU):=fun h=>h
 have H4:Hid ((bL s).take 4=lH→(bL s).take BX.size=bL BX∧cJ ((bL s).drop 4)=cJ ((bL s).drop BX.size)):=fun h=>⟨h,rfl⟩
 have H4n:Hid (¬(bL s).take 4=lH→¬(bL s).take BX.size=bL BX):=fun h=>h
 unfold xU at H5 H5n
 unfold BX at H4 H4n
 by_cases h5:(bL s).take 5=i1
 ·have HT:=zH (H5.out h5)
  obtain⟨t,ht⟩:∃t,cJ ((bL s).drop 5)=t:=⟨_,rfl⟩
  have hc:eT s=(0,t):=by unfold eT;rw[if_pos h5,ht]
  rw[ht] at HT
  rw[hc] at HCS HRY HRN
  clear h5 hc ht H5 H5n H4 H4n
  obtain⟨HZ,HD,HB⟩:=wC w 41 [.int .i64 0,.string ⟨#[]⟩] [.int .i64 0,.string t]
  go_enter Tryz.func44,Tryz.ntmps44
  go_wp2_with fail
  refine(FH _ HT _).mono ?_
  rintro e w' ⟨rfl,rfl⟩
  go_wp2_with fail
  obtain⟨W,hW⟩:∃W,(w.alloc (.cells #[.int .i64 0,.string ⟨#[]⟩] 41)).alloc (.cells #[.int .i64 0,.string t] 41)=W:=⟨_,rfl⟩
  rw[hW]
  simp only[hW] at HZ HD HB
  clear hW
  refine(wS 0 t _ (Nat.le_trans HCS.out hs)).mono ?_
  rintro e w1 ⟨rfl,hb⟩
  replace HZ:=zH (HZ.out.below hb)
  replace HD:=zH (HD.out.below hb)
  replace HB:=zH (aA HB.out hb)
  clear hb
  by_cases he:b8 (0,t)=s
  ·have H12:=zH (HRY.out he)
   rw[he]
   have hne:(s.toList != s.toList)=false:=by unfold bne;rw[sW];rfl
   have hc0:=HD.out.cell (i:=0) (v:= .int .i64 0) rfl
   have hc1:=HD.out.cell (i:=1) (v:= .string t) rfl
   obtain⟨⟨hz0,hz1,hz2,hz3⟩,⟨hz4,hz5⟩,HZ2⟩:=HZ.out.store2 (.int .i64 0) (.string t)
   clear he
   go_wp2_with fail
   refine bodyPost_ret_by (dK (b:=w.heap.size) (v:= .bool true) rfl rfl rfl HZ2) rfl ⟨by rw[H12.out.1,H12.out.2],fN HB.out (Nat.le_refl _) _ _⟩
  ·have H12:=zH (HRN.out he)
   have hne:((b8 (0,t)).toList==s.toList)=false:=lT he
   obtain⟨⟨hz0,hz1,hz2,hz3⟩,⟨hz4,hz5⟩,HZ2⟩:=HZ.out.store2 (.int .i64 0) (.string ⟨#[]⟩)
   clear he
   go_wp2_with fail
   refine bodyPost_ret_by (dK (b:=w.heap.size) (v:= .bool false) rfl rfl rfl HZ2) rfl ⟨by rw[H12.out.1,H12.out.2],fN HB.out (Nat.le_refl _) _ _⟩
 ·have HTN:=zH (H5n.out h5)
  by_cases h4:(bL s).take 4=lH
  ·have HT:=zH (H4.out h4)
   obtain⟨t,ht⟩:∃t,cJ ((bL s).drop 4)=t:=⟨_,rfl⟩
   have hc:eT s=(1,t):=by unfold eT;rw[if_neg h5,if_pos h4,ht]
   rw[ht] at HT
   rw[hc] at HCS HRY HRN
   clear h5 h4 hc ht H5 H5n H4 H4n
   obtain⟨HZ,HD,HB⟩:=wC w 41 [.int .i64 0,.string ⟨#[]⟩] [.int .i64 1,.string t]
   go_enter Tryz.func44,Tryz.ntmps44
   go_wp2_with fail
   refine(CB _ HTN _).mono ?_
   rintro e w' ⟨rfl,rfl⟩
   go_wp2_with fail
   refine(FH _ HT _).mono ?_
   rintro e w' ⟨rfl,rfl⟩
   go_wp2_with fail
   obtain⟨W,hW⟩:∃W,(w.alloc (.cells #[.int .i64 0,.string ⟨#[]⟩] 41)).alloc (.cells #[.int .i64 1,.string t] 41)=W:=⟨_,rfl⟩
   rw[hW]
   simp only[hW] at HZ HD HB
   clear hW
   refine(wS 1 t _ (Nat.le_trans HCS.out hs)).mono ?_
   rintro e w1 ⟨rfl,hb⟩
   replace HZ:=zH (HZ.out.below hb)
   replace HD:=zH (HD.out.below hb)
   replace HB:=zH (aA HB.out hb)
   clear hb
   by_cases he:b8 (1,t)=s
   ·have H12:=zH (HRY.out he)
    rw[he]
    have hne:(s.toList != s.toList)=false:=by unfold bne;rw[sW];rfl
    have hc0:=HD.out.cell (i:=0) (v:= .int .i64 1) rfl
    have hc1:=HD.out.cell (i:=1) (v:= .string t) rfl
    obtain⟨⟨hz0,hz1,hz2,hz3⟩,⟨hz4,hz5⟩,HZ2⟩:=HZ.out.store2 (.int .i64 1) (.string t)
    clear he
    go_wp2_with fail
    refine bodyPost_ret_by (dK (b:=w.heap.size) (v:= .bool true) rfl rfl rfl HZ2) rfl ⟨by rw[H12.out.1,H12.out.2],fN HB.out (Nat.le_refl _) _ _⟩
   ·have H12:=zH (HRN.out he)
    have hne:((b8 (1,t)).toList==s.toList)=false:=lT he
    obtain⟨⟨hz0,hz1,hz2,hz3⟩,⟨hz4,hz5⟩,HZ2⟩:=HZ.out.store2 (.int .i64 0) (.string ⟨#[]⟩)
    clear he
    go_wp2_with fail
    refine bodyPost_ret_by (dK (b:=w.heap.size) (v:= .bool false) rfl rfl rfl HZ2) rfl ⟨by rw[H12.out.1,H12.out.2],fN HB.out (Nat.le_refl _) _ _⟩
  ·have HTM:=zH (H4n.out h4)
   have hc:eT s=(2,⟨#[]⟩):=by unfold eT;rw[if_neg h5,if_neg h4];rfl
   rw[hc] at HCS HRY HRN
   clear h5 h4 hc H5 H5n H4 H4n
   obtain⟨HZ,HD,HB⟩:=wC w 41 [.int .i64 0,.string ⟨#[]⟩] [.int .i64 2,.string ⟨#[]⟩]
   go_enter Tryz.func44,Tryz.ntmps44
   go_wp2_with fail
   refine(CB _ HTN _).mono ?_
   rintro e w' ⟨rfl,rfl⟩
   go_wp2_with fail
   refine(CB _ HTM _).mono ?_
   rintro e w' ⟨rfl,rfl⟩
   go_wp2_with fail
   obtain⟨W,hW⟩:∃W,(w.alloc (.cells #[.int .i64 0,.string ⟨#[]⟩] 41)).alloc (.cells #[.int .i64 2,.string ⟨#[]⟩] 41)=W:=⟨_,rfl⟩
   rw[hW]
   simp only[hW] at HZ HD HB
   clear hW
   refine(wS 2 ⟨#[]⟩ _ (Nat.zero_le _)).mono ?_
   rintro e w1 ⟨rfl,hb⟩
   replace HZ:=zH (HZ.out.below hb)
   replace HD:=zH (HD.out.below hb)
   replace HB:=zH (aA HB.out hb)
   clear hb
   by_cases he:b8 (2,⟨#[]⟩)=s
   ·have H12:=zH (HRY.out he)
    rw[he]
    have hne:(s.toList != s.toList)=false:=by unfold bne;rw[sW];rfl
    have hc0:=HD.out.cell (i:=0) (v:= .int .i64 2) rfl
    have hc1:=HD.out.cell (i:=1) (v:= .string ⟨#[]⟩) rfl
    obtain⟨⟨hz0,hz1,hz2,hz3⟩,⟨hz4,hz5⟩,HZ2⟩:=HZ.out.store2 (.int .i64 2) (.string ⟨#[]⟩)
    clear he
    go_wp2_with fail
    refine bodyPost_ret_by (dK (b:=w.heap.size) (v:= .bool true) rfl rfl rfl HZ2) rfl ⟨by rw[H12.out.1,H12.out.2],fN HB.out (Nat.le_refl _) _ _⟩
   ·have H12:=zH (HRN.out he)
    have hne:((b8 (2,⟨#[]⟩)).toList==s.toList)=false:=lT he
    obtain⟨⟨hz0,hz1,hz2,hz3⟩,⟨hz4,hz5⟩,HZ2⟩:=HZ.out.store2 (.int .i64 0) (.string ⟨#[]⟩)
    clear he
    go_wp2_with fail
    refine bodyPost_ret_by (dK (b:=w.heap.size) (v:= .bool false) rfl rfl rfl HZ2) rfl ⟨by rw[H12.out.1,H12.out.2],fN HB.out (Nat.le_refl _) _ _⟩
abbrev R9:=Lib.BuilderAt 89 5
abbrev WV:=Lib.IsBuilder 89 5
def NS(B b:Nat)(l:List UInt8)(w:World):Prop:=WV B b (Lib.byteCells l) w
theorem NS.new(w:World):NS w.heap.size w.heap.size [] (w.alloc (.cells #[.pointer none,.slice none 0 0] 89)):=
 Or.inl ⟨Nat.le_refl _,.slice none 0 0,World.alloc_heap_new w _,by have:=World.ownsRow_nil (w.alloc (.cells #[.pointer none,.slice none 0 0] 89)) w.heap.size 5 1;exact this,by simp[Value.ownBlock]⟩
theorem NS.below{B b:Nat}{l:List UInt8}{w w' :World}(h:NS B b l w)(hb:Below w.heap.size w w'):NS B b l w' :=by
 have key:∀p,R9 B b p (Lib.byteCells l) w→R9 B b p (Lib.byteCells l) w' :=by
  rintro p ⟨h1,v,h2,h3,h4⟩
  exact⟨h1,v,(hb.block b (Array.getElem?_eq_some_iff.1 h2).1).trans h2,World.ownsRow.kept (row:=none) h3 ⟨hb.os,hb.tape,hb.output,hb.size,fun k hk _=>hb.block k hk⟩ (by cases v.ownBlock<;>simp),h4⟩
 rcases h with h|h
 ·exact Or.inl (key _ h)
 ·exact Or.inr (key _ h)
end Go.Proofs.YtfhjcacfchkdpaaGreatDoor
