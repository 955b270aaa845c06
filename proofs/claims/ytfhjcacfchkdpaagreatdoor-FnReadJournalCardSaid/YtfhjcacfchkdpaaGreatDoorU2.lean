/-
  What the proofs of this seat's statements share (Row, Copies, Lists, IssueOk, Settles, Statement, Read, Draw, Laws3, Laws4).
-/
import Derived.Below
import Derived.Laws.OwnMore
import Derived.Maps.AppendAt
import Derived.WalkSmall
import Derived.Deep.Draws
import Derived.Deep.OwnRows
import Derived.OwnWalk
import Derived.BigQuiet
import Derived.Deep.QuietTactic
import Derived.OpenShut
import Derived.Test.YtfhjcacfchkdpaaGreatDoorU1
set_option maxRecDepth 100000
set_option maxHeartbeats 32000000
namespace Go.Proofs.YtfhjcacfchkdpaaGreatDoor
open Go.RowKit
def cB(k:IntKind)(w:World)(A:Option Addr)(xs:List Int):Prop:=
 0<xs.length→∃b off,A=some ⟨b,off,none⟩∧b<w.heap.size∧∀i,i<xs.length→w.cell? ⟨b,off+i,none⟩=some (.int k (xs.getD i 0))
theorem cB.nil(k:IntKind)(w:World)(A:Option Addr):cB k w A []:=fun h=>absurd h (by simp)
theorem cB.keep{k:IntKind}{w w' :World}{A:Option Addr}{xs:List Int}(h:cB k w A xs)(hs:w.heap.size≤w'.heap.size)(hk:∀b,b<w.heap.size→(∀ad,A=some ad→ad.block=b→w'.heap[b]? =w.heap[b]?)):cB k w' A xs:=by
 intro hn
 obtain⟨b,off,rfl,hb,hc⟩:=h hn
 exact⟨b,off,rfl,by omega,fun i hi=>(World.cell?_of_block (hk b hb _ rfl rfl)).trans (hc i hi)⟩
theorem cB.below{k:IntKind}{w w' :World}{A:Option Addr}{xs:List Int}(h:cB k w A xs)(hb:Below w.heap.size w w'):cB k w' A xs:=
 h.keep hb.size fun b hlt _ _ _=>hb.block b hlt
theorem cB.drewN{k:IntKind}{w:World}{A:Option Addr}{xs:List Int}(h:cB k w A xs)(n:Nat):cB k (w.drewN n) A xs:=h
theorem cB.alloc{k:IntKind}{w:World}{A:Option Addr}{xs:List Int}(h:cB k w A xs)(o:Obj):cB k (w.alloc o) A xs:=
 h.below ((Below.refl _ _).alloc (Nat.le_refl _) o)
theorem cB.grown{k:IntKind}{w w' :World}{A:Option Addr}{xs:List Int}{row:Option Nat}(h:cB k w A xs)(hg:w.grownBy w' row)(hr:∀ad,A=some ad→some ad.block≠row):cB k w' A xs:=
 h.keep hg.size fun b hlt ad ha hab=>hg.block b hlt (by rw[←hab];exact hr ad ha)
theorem cB.drop{k:IntKind}{w:World}{A:Option Addr}{xs:List Int}(h:cB k w A xs){j c:Nat}(hc:xs.length≤c):
  cB k w (if c=j then A else A.map (·.add j)) (xs.drop j):=by
 intro hn
 rw[List.length_drop] at hn
 obtain⟨b,off,rfl,hb,hcell⟩:=h (by omega)
 rw[if_neg (by omega)]
 refine⟨b,off+j,by simp only[Option.map_some,Addr.add];split<;>simp_all,hb,fun i hi=> ?_⟩
 rw[List.length_drop] at hi
 rw[Nat.add_assoc,hcell (j+i) (by omega)]
 simp[List.getElem?_drop]
theorem cB.from_{k:IntKind}{w:World}{b off:Nat}{xs:List Int}(h:cB k w (some ⟨b,off,none⟩) xs)(j:Nat):cB k w (some ⟨b,off+j,none⟩) (xs.drop j):=by
 intro hn
 rw[List.length_drop] at hn
 obtain⟨b',off',hA,hb,hcell⟩:=h (by omega)
 cases hA
 refine⟨b,off+j,rfl,hb,fun i hi=> ?_⟩
 rw[List.length_drop] at hi
 rw[Nat.add_assoc,hcell (j+i) (by omega)]
 simp[List.getElem?_drop]
theorem cB.none_{k:IntKind}{w:World}{A:Option Addr}{xs:List Int}(h:xs.length=0):cB k w A xs:=fun hn=>by omega
theorem cB.take{k:IntKind}{w:World}{A:Option Addr}{xs:List Int}(h:cB k w A xs)(j:Nat):cB k w A (xs.take j):=by
 intro hn
 rw[List.length_take] at hn
 obtain⟨b,off,rfl,hb,hcell⟩:=h (by omega)
 refine⟨b,off,rfl,hb,fun i hi=> ?_⟩
 rw[List.length_take] at hi
 rw[hcell i (by omega)]
 simp[show i<j by omega]
def aS(w:World)(base:Nat)(v:Value)(xs:List Int):Prop:=w.ownsRow base 3 1 v xs.length (xs.map (Value.int .i64))
theorem aS.form{w:World}{base:Nat}{v:Value}{xs:List Int}(h:aS w base v xs):
  ∃A c,v= .slice A xs.length c∧xs.length≤c∧c≤maxLen∧cB .i64 w A xs∧(∀ad,A=some ad→base≤ad.block∧ad.block<w.heap.size):=by
 have hcells:=fun g=>World.ownsRow.cells h (g:=g)
 rcases h.2 with⟨rfl,hl⟩|⟨g,cap,cur,rfl,hb,hg,hn,hm,_,_⟩
 ·exact⟨none,0,by rw[hl],by omega,by simp[maxLen],fun hp=>absurd hp (by omega),fun ad h=>by cases h⟩
 ·have hlt:g<w.heap.size:=(Array.getElem?_eq_some_iff.1 hg).1
  refine⟨some ⟨g,0,none⟩,cap,rfl,hn,hm,fun hp=>⟨g,0,rfl,hlt,fun i hi=> ?_⟩,fun ad h=>by cases h;exact⟨hb,hlt⟩⟩
  have hi2:(xs.map (Value.int .i64))[i]? =some (.int .i64 (xs.getD i 0)):=by simp[hi]
  have:=hcells g rfl i _ hi2
  have e:(⟨g,0,none⟩:Addr).add i=⟨g,0+i,none⟩:=by unfold Addr.add;split<;>simp_all
  rw[e] at this
  exact this
theorem aS.kept{w w' :World}{base:Nat}{v:Value}{xs:List Int}(h:aS w base v xs){row:Option Nat}(hg:w.grownBy w' row)(hne:v.ownBlock=none∨v.ownBlock≠row):aS w' base v xs:=
 World.ownsRow.kept h hg hne
theorem aS.below{w w' :World}{base:Nat}{v:Value}{xs:List Int}(h:aS w base v xs)(hb:Below w.heap.size w w'):aS w' base v xs:=
 World.ownsRow.kept (row:=none) h ⟨hb.os,hb.tape,hb.output,hb.size,fun k hk _=>hb.block k hk⟩ (by cases v.ownBlock<;>simp)
theorem aS.base{w:World}{base base' :Nat}{v:Value}{xs:List Int}(h:aS w base v xs)(hb:base'≤base):aS w base' v xs:=by
 refine⟨h.1,?_⟩
 rcases h.2 with h|⟨g,cap,cur,h1,h2,h3⟩
 ·exact .inl h
 ·exact .inr ⟨g,cap,cur,h1,by omega,h3⟩
theorem aS.nil(w:World)(base:Nat):aS w base (.slice none 0 0) []:=World.ownsRow_nil w base _ 1
theorem aS.lit(w:World)(base:Nat)(xs:List Int)(hb:base≤w.heap.size)(hm:xs.length≤maxLen):
  aS (w.alloc (.cells (xs.map (Value.int .i64)).toArray 3)) base (.slice (some ⟨w.heap.size,0,none⟩) xs.length xs.length) xs:=by
 have h:=World.ownsRow_lit (base:=base) (e:=3) (size:=1) w (xs.map (Value.int .i64)).toArray xs.length hb hm (by simp)
 simpa [aS] using h
theorem WC{k:IntKind}{w:World}{a:Option Addr}{len cap:Nat}{zs:List Int}
  (h:(a=none∧len=0∧cap=0∧zs=[])∨∃x,a=some x∧len≤cap∧cap≤maxLen∧zs.length=cap∧(∀i,i<zs.length→w.cell? (x.add i)=some (.int k (zs.getD i 0)))∧∀n∈zs,(Lit.int k n).wf=true):
  ∃xs:List Int,len=xs.length∧cB k w a xs∧len≤cap∧cap≤maxLen∧∀x∈xs,(Lit.int k x).wf=true:=by
 rcases h with⟨rfl,rfl,rfl,rfl⟩|⟨x,rfl,hl,hm,hz,hc,hw⟩
 ·exact⟨[],rfl,cB.nil _ _ _,by omega,by simp[maxLen],by simp⟩
 ·refine⟨zs.take len,by rw[List.length_take];omega,fun hp=> ?_,hl,hm,fun y hy=>hw y (List.mem_of_mem_take hy)⟩
  rw[List.length_take] at hp
  have h0:=hc 0 (by omega)
  obtain⟨b,off,spot⟩:=x
  have hs:spot=none:=by simpa [Addr.add] using World.cell?_spot h0
  subst hs
  refine⟨b,off,rfl,World.block_lt_of_cell? w _ h0,fun i hi=> ?_⟩
  rw[List.length_take] at hi
  have:=hc i (by omega)
  have e:(⟨b,off,none⟩:Addr).add i=⟨b,off+i,none⟩:=by unfold Addr.add;split<;>simp_all
  rw[e] at this
  rw[this]
  simp[show i<len by omega]
theorem cB.other{k:IntKind}{w w' :World}{A A2:Option Addr}{n2 c2:Nat}{xs:List Int}{B:Nat}(h:cB k w A xs)(hg:w.grownBy w' (Value.slice A2 n2 c2).ownBlock)
  (h1:∀ad,A=some ad→ad.block<B) (h2:∀ad,A2=some ad→B≤ad.block):cB k w' A xs:=by
 refine h.grown hg fun ad ha e=> ?_
 have hb:=h1 ad ha
 cases A2 with
 |none=>cases e
 |some ad2=>
  have:ad.block=ad2.block:=by simpa [Value.ownBlock] using e
  have:=h2 ad2 rfl
  omega
theorem R5{w w1 w2:World}{A2:Option Addr}{n2 c2:Nat}(h:Below w.heap.size w w1)(hg:w1.grownBy w2 (Value.slice A2 n2 c2).ownBlock)(h2:∀ad,A2=some ad→w.heap.size≤ad.block):Below w.heap.size w w2:=by
 refine h.grown hg h.size fun k e=> ?_
 cases A2 with
 |none=>cases e
 |some ad2=>
  have:ad2.block=k:=by simpa [Value.ownBlock] using e
  have:=h2 ad2 rfl
  omega
theorem aA{w w1 w2:World}(h:Below w.heap.size w w1)(h2:Below w1.heap.size w1 w2):Below w.heap.size w w2:=h.trans (h2.mono h.size)
theorem aE{B:Nat}{w w1:World}(h:Below B w w1)(n:Nat):Below B w (w1.drewN n):=below_drewN h n
theorem cB.elem{k:IntKind}{w:World}{A:Option Addr}{xs:List Int}(h:cB k w A xs){i:Nat}(hi:i<xs.length):
  ∃b off x,A=some ⟨b,off,none⟩∧w.cell? ⟨b,off+i,none⟩=some (.int k x)∧Hid (xs[i]? =some x)∧Hid (b<w.heap.size):=by
 obtain⟨b,off,hA,hb,hc⟩:=h (by omega)
 exact⟨b,off,_,hA,hc i hi,by show _=_;simp[hi],hb⟩
theorem eG{xs:List Int}{i:Nat}{x:Int}(h:Hid (xs[i]? =some x)):x∈xs:=List.mem_of_getElem? h.out
theorem CI{xs:List Int}{i:Nat}{x:Int}(h:Hid (xs[i]? =some x)):i<xs.length:=(List.getElem?_eq_some_iff.1 h.out).1
theorem gG{xs:List Int}{i:Nat}{x:Int}(h:Hid (xs[i]? =some x)):xs.take (i+1)=xs.take i++[x]:=by
 rw[List.take_succ_eq_append_getElem (CI h),(List.getElem?_eq_some_iff.1 h.out).2]
theorem p3{xs:List Int}{i:Nat}{x:Int}(h:Hid (xs[i]? =some x)):xs.drop i=x::xs.drop (i+1):=by
 rw[List.drop_eq_getElem_cons (CI h),(List.getElem?_eq_some_iff.1 h.out).2]
theorem pS:(Tryz.prog.info? 3).map (fun i=>(i.zero,i.size,i.bytes))=some (some (.int .i64 0),1,8):=by kernel_rfl
theorem gE{w0 w:World}{g:Nat}(h:w0.grownBy w (some g))(i:Nat)(u:Value):w0.grownBy (w.setCell ⟨g,i,none⟩ u) (some g):=
 ⟨h.os,h.tape,h.output,by simpa [World.setCell] using h.size,fun k hk hne=>(Below.heap_setCell w ⟨g,i,none⟩ u k (fun e=>hne (by rw[e]))).trans (h.block k hk hne)⟩
def aF(s:Int)(xs:List Int):Bool:=xs.any (aB s)
theorem sY{s x:Int}{xs:List Int}{i:Nat}(hx:Hid (xs[i]? =some x)):aF s (xs.take (i+1))=(aF s (xs.take i)||aB s x):=by
 rw[gG hx];simp[aF]
theorem uZ{s x:Int}{xs:List Int}{i:Nat}(hx:Hid (xs[i]? =some x))(h:aB s x=true):aF s xs=true:=by
 unfold aF;rw[List.any_eq_true];exact⟨_,eG hx,h⟩
theorem nJ(s:Int)(A:Option Addr)(n c:Nat)(xs:List Int)(w:World)(hn:n=xs.length)(hs:0≤s)(hs2:s<256)(hr:∀x∈xs,0≤x∧x<256)(hl:n≤1048576)(hA:cB .i64 w A xs):
  Calls Tryz.prog 143 #[.int .i64 s,.slice A n c] w fun e w' =>e= .returned (.bool (aF s xs))∧w=w' :=by
 subst hn
 have HR:=zH hr
 have HA:=zH hA
 clear hr hA
 go_enter Tryz.func143,Tryz.ntmps143
 go_wp2
 go_loop [9] (fun i=>∃k:Nat,k≤xs.length∧i= .int .i64 k∧Hid (aF s (xs.take k)=false)) (fun i=>xs.length-(Go.RowKit.intOf i).toNat)
 case atStart=>exact⟨0,Nat.zero_le _,rfl,rfl⟩
 case round=>
  obtain⟨k,hk,rfl,hsofar⟩:=hrel
  by_cases hlt:k<xs.length
  ·obtain⟨b,off,x,rfl,hcell,hx,_⟩:=HA.out.elem hlt
   obtain⟨he1,he2⟩:=HR.out x (eG hx)
   go_wp2_with (go_at_call 119;refine(xQ _ _ hs (by omega) he1 (by omega) _).mono ?_;rintro e w' ⟨rfl,rfl⟩)
   ·rename_i hw
    go_ret
    exact⟨aM (by rw[uZ hx hw]),rfl⟩
   ·rename_i hw
    go_round
    case rel=>exact⟨k+1,by omega,by go_num,by unfold Hid;rw[sY hx,hsofar.out];simpa using hw⟩
    case measure=>simp[Go.RowKit.intOf];omega
  ·obtain rfl:k=xs.length:=by omega
   go_wp2
   go_ret
   exact⟨aM (by rw[←hsofar.out,List.take_length]),rfl⟩
def dR(t:Int)(xs:List Int):Bool:=decide (1≤xs.length∧xs.length≤70)&&xs.all (aO t)
theorem yA{t:Int}{xs:List Int}(h:xs.length<1∨70<xs.length):dR t xs=false:=by
 unfold dR;rw[Bool.and_eq_false_iff];left;simp;omega
theorem PJ{t x:Int}{xs:List Int}{i:Nat}(hx:Hid (xs[i]? =some x))(h:aO t x=false):xs.all (aO t)=false:=by
 rw[List.all_eq_false];exact⟨x,eG hx,by simp[h]⟩
theorem wZ{t x:Int}{xs:List Int}{i:Nat}(hx:Hid (xs[i]? =some x))(h:aO t x=false):dR t xs=false:=by
 unfold dR;rw[PJ hx h];simp
theorem F9{t x:Int}{xs:List Int}{i:Nat}(hx:Hid (xs[i]? =some x)):(xs.take (i+1)).all (aO t)=((xs.take i).all (aO t)&&aO t x):=by
 rw[gG hx];simp
theorem IZ{t:Int}{xs:List Int}(h1:¬(xs.length<1∨70<xs.length))(h:xs.all (aO t)=true):dR t xs=true:=by
 unfold dR;rw[h];simp;omega
theorem uU{t:Int}{xs:List Int}(h:dR t xs=true):∀x∈xs,0≤x∧x<256:=by
 intro x hx
 unfold dR at h
 rw[Bool.and_eq_true,List.all_eq_true] at h
 have:=aZ (h.2 x hx)
 omega
theorem y5(t:Int)(A:Option Addr)(n c:Nat)(xs:List Int)(w:World)(hn:n=xs.length)(hl:n≤1048576)(hA:cB .i64 w A xs):
  Calls Tryz.prog 161 #[.int .i64 t,.slice A n c] w fun e w' =>e= .returned (.bool (dR t xs))∧w=w' :=by
 subst hn
 have HA:=zH hA
 clear hA
 by_cases h0:xs.length<1
 ·have hd:decide ((xs.length:Int)<1)=true:=by simp;omega
  go_enter Tryz.func161,Tryz.ntmps161
  go_wp2
  go_ret
  exact⟨aM (by rw[yA (.inl h0)]),rfl⟩
 ·by_cases h1:70<xs.length
  ·have hd:decide ((xs.length:Int)<1)=false:=by simp;omega
   have hd2:decide ((70:Int)<(xs.length:Int))=true:=by simp;omega
   go_enter Tryz.func161,Tryz.ntmps161
   go_wp2
   go_ret
   exact⟨aM (by rw[yA (.inr h1)]),rfl⟩
  ·have hd:decide ((xs.length:Int)<1)=false:=by simp;omega
   have hd2:decide ((70:Int)<(xs.length:Int))=false:=by simp;omega
   go_enter Tryz.func161,Tryz.ntmps161
   go_wp2
   go_loop [17] (fun i=>∃k:Nat,k≤xs.length∧i= .int .i64 k∧Hid ((xs.take k).all (aO t)=true)) (fun i=>xs.length-(Go.RowKit.intOf i).toNat)
   case atStart=>exact⟨0,Nat.zero_le _,rfl,rfl⟩
   case round=>
    obtain⟨k,hk,rfl,hsofar⟩:=hrel
    by_cases hlt:k<xs.length
    ·obtain⟨b,off,x,rfl,hcell,hx,_⟩:=HA.out.elem hlt
     go_wp2_with (go_at_call 104;refine(M2 _ _ _).mono ?_;rintro e w' ⟨rfl,rfl⟩)
     ·rename_i hw
      go_ret
      exact⟨aM (by rw[wZ hx (by simpa using hw)]),rfl⟩
     ·rename_i hw
      go_round
      case rel=>exact⟨k+1,by omega,by go_num,by unfold Hid;rw[F9 hx,hsofar.out];simpa using hw⟩
      case measure=>simp[Go.RowKit.intOf];omega
    ·obtain rfl:k=xs.length:=by omega
     go_wp2
     go_ret
     exact⟨aM (by rw[IZ (by omega) (by rw[←hsofar.out,List.take_length])]),rfl⟩
def hN(xs:List Int):Bool:=decide (xs.Pairwise (·≤·))
theorem IB{x y:Int}{xs:List Int}{i:Nat}(hx:Hid (xs[i+1]? =some x))(hy:Hid (xs[i]? =some y))(h:hN (xs.drop (i+1))=true)(hle:y≤x):hN (xs.drop i)=true:=by
 unfold hN at*
 have h:=of_decide_eq_true h
 apply decide_eq_true
 rw[p3 hy,List.pairwise_cons]
 refine⟨fun z hz=> ?_,h⟩
 rw[p3 hx] at h hz
 rw[List.pairwise_cons] at h
 rcases List.mem_cons.1 hz with rfl|hz
 ·exact hle
 ·have:=h.1 z hz;omega
theorem G8{x y:Int}{xs:List Int}{i:Nat}(hx:Hid (xs[i+1]? =some x))(hy:Hid (xs[i]? =some y))(hlt:x<y):hN xs=false:=by
 unfold hN
 apply decide_eq_false
 intro h
 obtain⟨h1,e1⟩:=List.getElem?_eq_some_iff.1 hx.out
 obtain⟨h2,e2⟩:=List.getElem?_eq_some_iff.1 hy.out
 have:=List.pairwise_iff_getElem.1 h i (i+1) h2 h1 (by omega)
 omega
theorem LC{xs:List Int}{k:Nat}(h:xs.length≤k+1):hN (xs.drop k)=true:=by
 unfold hN
 apply decide_eq_true
 have hl:(xs.drop k).length≤1:=by rw[List.length_drop];omega
 match xs.drop k,hl with
 |[],_=>exact List.Pairwise.nil
 |[x],_=>simp
theorem Q9(a b:Int)(w:World):Calls Tryz.prog 177 #[.int .i64 a,.int .i64 b] w fun e w' =>e= .returned (.bool (decide (a<b)))∧w=w' :=by
 go_enter Tryz.func177,Tryz.ntmps177
 go_wp2
 go_ret
 exact⟨rfl,rfl⟩
theorem p6{P:Program}{f:FuncId}{args:Array Value}{w:World}{a n:Nat}{v:Value}
  (h:Calls P f args (w.drewN (a+n)) fun e w' =>e= .returned v∧w.drewN (a+n)=w'):Calls P f args (w.drewN (a+n)) fun e w'' =>e= .returned v∧∃m,w'' =w.drewN (a+m):=
 h.mono fun _ _ ⟨he,hm⟩=>⟨he,n,hm.symm⟩
theorem vA(A:Option Addr)(nn c:Nat)(xs:List Int)(w:World)(hn:nn=xs.length)(hl:nn≤1048576)(hA:cB .i64 w A xs):
  Calls Tryz.prog 162 #[.slice A nn c] w fun e w' =>e= .returned (.bool (hN xs))∧∃n,w' =w.drewN n:=by
 subst hn
 have HA:=zH hA
 clear hA
 go_enter Tryz.func162,Tryz.ntmps162
 go_wp2
 go_loopw [3] (fun i wr=>∃k:Int,-1≤k∧k<xs.length∧i= .int .i64 k∧Hid (hN (xs.drop k.toNat)=true)∧∃n,wr=w.drewN n) (fun i _=>(Go.RowKit.intOf i).toNat)
 case atStart=>exact⟨_,by omega,by omega,rfl,LC (by omega),0,rfl⟩
 case round=>
  obtain⟨k,hk0,hk,rfl,hsofar,n,rfl⟩:=hrel
  by_cases hlt:0<k
  ·obtain⟨k,rfl⟩:∃q:Nat,k=q:=⟨k.toNat,by omega⟩
   obtain⟨b,off,x,rfl,hcell,hx,_⟩:=HA.out.elem (i:=k) (by omega)
   obtain⟨b',off',y,hAA,hcell2,hy,_⟩:=HA.out.elem (i:=k-1) (by omega)
   cases hAA
   have e1:IntKind.i64.wrap ((k:Int)-1)=(k:Int)-1:=IntWalk.i64_in _ (by omega)
   have e2:(0:Int)≤(k:Int)-1:=by omega
   have e3:((k:Int)-1).toNat=k-1:=by omega
   have e4:(k:Int)-1<(xs.length:Int):=by omega
   have e5:(1:Int)≤(k:Int):=by omega
   go_wp2
   go_quiet ((go_at_call 177;exact p6 (Q9 _ _ _)))
   go_wp2
   ·rename_i hw
    go_ret
    exact⟨aM (by rw[G8 (i:=k-1) (by rw[show k-1+1=k by omega];exact hx) hy hw]),_,World.drewN_drewN _ _ _⟩
   ·rename_i hw
    go_roundw
    case rel=>exact⟨(k:Int)-1,by omega,by omega,rfl,by rw[e3];exact IB (i:=k-1) (by rw[show k-1+1=k by omega];exact hx) hy (by rw[show k-1+1=k by omega];exact hsofar.out) (by omega),_,rfl⟩
    case measure=>simp[Go.RowKit.intOf];omega
  ·have hz:k.toNat=0:=by omega
   have HS:Hid (hN xs=true):=by unfold Hid;have:=hsofar.out;rwa [hz,List.drop_zero] at this
   clear hsofar hz
   go_wp2
   go_ret
   exact⟨aM HS.out.symm,_,rfl⟩
def nT(a b:Int):Bool:=decide (a<b)&& !aB a b&& !aB b a
def g7(xs:List Int):Bool:=decide (xs.Pairwise (fun a b=>nT a b=true))
def aC(t:Int)(xs:List Int):Bool:=dR t xs&&g7 xs
theorem dG(a:Int)(h:0≤a):aB a a=true:=by unfold aB aQ;simp;omega
theorem gZ{a b:Int}(h:aB a b=true)(hb:0≤b):a≤b:=by
 have:=of_decide_eq_true h;have:=uF a b hb;omega
theorem tE{t:Int}{xs:List Int}(h:dR t xs=false):aC t xs=false:=by unfold aC;rw[h];rfl
theorem IP{xs:List Int}(h:g7 xs=true):hN xs=true:=by
 unfold g7 at h;unfold hN
 apply decide_eq_true
 refine(of_decide_eq_true h).imp ?_
 intro a b hab
 simp[nT] at hab
 omega
theorem BK{t:Int}{xs:List Int}(h:hN xs=false):aC t xs=false:=by
 unfold aC
 rw[Bool.and_eq_false_iff];right
 cases hp:g7 xs
 ·rfl
 ·rw[IP hp] at h;cases h
theorem K4{xs:List Int}(h:g7 xs=true){i:Nat}{x:Int}(hx:Hid (xs[i]? =some x)):aF x (xs.drop (i+1))=false:=by
 unfold aF
 rw[List.any_eq_false]
 intro y hy
 have h:=of_decide_eq_true h
 have hs:(xs.drop i).Pairwise (fun a b=>nT a b=true):=h.sublist (List.drop_sublist i xs)
 rw[p3 hx,List.pairwise_cons] at hs
 have:=hs.1 y hy
 simp[nT] at this
 simp[this.1.2]
theorem DK{t:Int}{xs:List Int}{i:Nat}{x:Int}(hx:Hid (xs[i]? =some x))(h:aF x (xs.drop (i+1))=true):aC t xs=false:=by
 unfold aC
 rw[Bool.and_eq_false_iff];right
 cases hp:g7 xs
 ·rfl
 ·rw[K4 hp hx] at h;cases h
theorem TM{xs:List Int}(hr:∀x∈xs,0≤x∧x<256)(hs:hN xs=true)(hl:∀i x,xs[i]? =some x→aF x (xs.drop (i+1))=false):g7 xs=true:=by
 unfold g7
 apply decide_eq_true
 rw[List.pairwise_iff_getElem]
 intro i j hi hj hij
 have hle:=List.pairwise_iff_getElem.1 (of_decide_eq_true hs) i j hi hj hij
 have h1:=hl i xs[i] (List.getElem?_eq_getElem hi)
 unfold aF at h1
 rw[List.any_eq_false] at h1
 have hmem:xs[j]∈xs.drop (i+1):=by
  rw[List.mem_iff_getElem]
  exact⟨j-(i+1),by rw[List.length_drop];omega,by rw[List.getElem_drop];congr 1;omega⟩
 have hn:aB xs[i] xs[j]=false:=by simpa using h1 _ hmem
 have ha:=hr xs[i] (List.getElem_mem hi)
 have hb:=hr xs[j] (List.getElem_mem hj)
 have hne:xs[i]≠xs[j]:=by
  intro e
  rw[←e,dG _ ha.1] at hn
  cases hn
 have hn2:aB xs[j] xs[i]=false:=by
  cases h:aB xs[j] xs[i]
  ·rfl
  ·have:=gZ h ha.1;omega
 simp[nT,hn,hn2]
 omega
theorem sQ{t:Int}{xs:List Int}(h:aC t xs=true):dR t xs=true:=by
 unfold aC at h;rw[Bool.and_eq_true] at h;exact h.1
theorem dD{t:Int}{xs:List Int}(h:aC t xs=true):∀x∈xs,0≤x∧x<256:=uU (sQ h)
theorem z6{xs:List Int}{k:Nat}{x:Int}(h:Hid (∀i y,i<k→xs[i]? =some y→aF y (xs.drop (i+1))=false))(hx:Hid (xs[k]? =some x))
  (hw:aF x (xs.drop (k+1))=false):Hid (∀i y,i<k+1→xs[i]? =some y→aF y (xs.drop (i+1))=false):=by
 intro i y hi hy
 by_cases e:i=k
 ·subst e
  have:=hx.out.symm.trans hy
  cases this
  exact hw
 ·exact h.out i y (by omega) hy
theorem QF(t:Int)(A:Option Addr)(nn c:Nat)(xs:List Int)(w:World)(hn:nn=xs.length)(hl:nn≤1048576)(hc:nn≤c)(hm:c≤maxLen)(hA:cB .i64 w A xs):
  Calls Tryz.prog 142 #[.int .i64 t,.slice A nn c] w fun e w' =>e= .returned (.bool (aC t xs))∧∃n,w' =w.drewN n:=by
 subst hn
 have hm' :c≤9223372036854775807:=by unfold maxLen at hm;omega
 clear hm
 have HA:=zH hA
 clear hA
 rcases hp:dR t xs with _|_
 ·have HP:=zH hp
  clear hp
  go_enter Tryz.func142,Tryz.ntmps142
  go_wp2_with fail
  refine(y5 _ _ _ _ _ _ rfl hl HA.out).mono ?_
  rintro e w' ⟨rfl,rfl⟩
  rw[HP.out]
  go_wp2_with fail
  go_ret
  exact⟨aM (by rw[tE HP.out]),0,rfl⟩
 ·rcases hs:hN xs with _|_
  ·have HP:=zH hp
   have HS:=zH hs
   clear hp hs
   go_enter Tryz.func142,Tryz.ntmps142
   go_wp2_with fail
   refine(y5 _ _ _ _ _ _ rfl hl HA.out).mono ?_
   rintro e w' ⟨rfl,rfl⟩
   rw[HP.out]
   go_wp2_with fail
   refine(vA _ _ _ _ _ rfl hl HA.out).mono ?_
   rintro e w' ⟨rfl,n,rfl⟩
   rw[HS.out]
   go_wp2_with fail
   go_ret
   exact⟨aM (by rw[BK HS.out]),n,rfl⟩
  ·have HP:=zH hp
   have HS:=zH hs
   have HR:=zH (uU hp)
   clear hp hs
   go_enter Tryz.func142,Tryz.ntmps142
   go_wp2_with fail
   refine(y5 _ _ _ _ _ _ rfl hl HA.out).mono ?_
   rintro e w' ⟨rfl,rfl⟩
   rw[HP.out]
   go_wp2_with fail
   refine(vA _ _ _ _ _ rfl hl HA.out).mono ?_
   rintro e w' ⟨rfl,n,rfl⟩
   rw[HS.out]
   go_wp2_with fail
   go_loop [18] (fun i=>∃k:Nat,k≤xs.length∧i= .int .i64 k∧Hid (∀i x,i<k→xs[i]? =some x→aF x (xs.drop (i+1))=false)) (fun i=>xs.length-(Go.RowKit.intOf i).toNat)
   case atStart=>exact⟨0,Nat.zero_le _,rfl,fun i x h=>by omega⟩
   case round=>
    obtain⟨k,hk,rfl,hsofar⟩:=hrel
    by_cases hlt:k<xs.length
    ·obtain⟨b,off,x,rfl,hcell,hx,_⟩:=HA.out.elem hlt
     obtain⟨he1,he2⟩:=HR.out x (eG hx)
     have HD:Hid (∀y∈xs.drop (k+1),0≤y∧y<256):=fun y hy=>HR.out y (List.mem_of_mem_drop hy)
     have hlen:Hid (xs.length-(k+1)=(xs.drop (k+1)).length):=by unfold Hid;simp
     by_cases hck:c=k+1
     ·subst hck
      go_wp2_with fail
      refine(nJ _ _ _ _ (xs.drop (k+1)) _ (by rw[←hlen.out];try omega) he1 he2 HD.out (by omega) (by exact cB.none_ (by rw[←hlen.out];omega))).mono ?_
      rintro e w' ⟨rfl,rfl⟩
      go_wp2_with fail
      ·rename_i hw
       go_ret
       exact⟨aM (by rw[DK hx hw]),_,rfl⟩
      ·rename_i hw
       go_round
       case rel=>exact⟨k+1,by omega,by go_num,z6 hsofar hx (by simpa using hw)⟩
       case measure=>simp[Go.RowKit.intOf];omega
     ·skip
      go_wp2_with fail
      refine(nJ _ _ _ _ (xs.drop (k+1)) _ (by rw[←hlen.out];try omega) he1 he2 HD.out (by omega) (by exact HA.out.from_ (k+1))).mono ?_
      rintro e w' ⟨rfl,rfl⟩
      go_wp2_with fail
      ·rename_i hw
       go_ret
       exact⟨aM (by rw[DK hx hw]),_,rfl⟩
      ·rename_i hw
       go_round
       case rel=>exact⟨k+1,by omega,by go_num,z6 hsofar hx (by simpa using hw)⟩
       case measure=>simp[Go.RowKit.intOf];omega
    ·obtain rfl:k=xs.length:=by omega
     have HF:Hid (aC t xs=true):=by
      unfold Hid aC
      rw[HP.out,TM HR.out HS.out (fun i x hx=>hsofar.out i x (List.getElem?_eq_some_iff.1 hx).1 hx)];rfl
     clear hsofar
     go_wp2
     go_ret
     exact⟨aM HF.out.symm,_,rfl⟩
theorem FR{ys:List Int}{x:Int}(h:g7 ys=true)(hx:∀y∈ys,y<x∧aB x y=false∧aB y x=false):g7 (ys++[x])=true:=by
 unfold g7 at*
 apply decide_eq_true
 rw[List.pairwise_append]
 refine⟨of_decide_eq_true h,by simp,fun a ha b hb=> ?_⟩
 obtain rfl:b=x:=by simpa using hb
 obtain⟨h1,h2,h3⟩:=hx a ha
 simp[nT,h1,h2,h3]
theorem pO{xs:List Int}(h:g7 xs=true){i j:Nat}{x y:Int}(hij:i<j)(hx:xs[i]? =some x)(hy:xs[j]? =some y):x<y∧aB x y=false∧aB y x=false:=by
 obtain⟨hi,rfl⟩:=List.getElem?_eq_some_iff.1 hx
 obtain⟨hj,rfl⟩:=List.getElem?_eq_some_iff.1 hy
 have:=List.pairwise_iff_getElem.1 (of_decide_eq_true h) i j hi hj hij
 simp[nT] at this
 exact⟨this.1.1,by simp[this.1.2],by simp[this.2]⟩
theorem lY{t:Int}{xs:List Int}{i j:Nat}{x y:Int}(hij:i<j)(hx:xs[i]? =some x)(hy:xs[j]? =some y)(h:y≤x∨aB x y=true∨aB y x=true):aC t xs=false:=by
 unfold aC
 rw[Bool.and_eq_false_iff];right
 cases hp:g7 xs
 ·rfl
 ·obtain⟨h1,h2,h3⟩:=pO hp hij hx hy
  rcases h with h|h|h
  ·omega
  ·rw[h2] at h;cases h
  ·rw[h3] at h;cases h
def NT(t:Int)(xs:List Int)(k:Nat):Prop:=(xs.take k).all (aO t)=true∧g7 (xs.take k)=true
theorem QP(t:Int)(xs:List Int):Hid (NT t xs 0):=⟨rfl,rfl⟩
theorem GG{t:Int}{xs:List Int}{k:Nat}{x:Int}(h:Hid (NT t xs k))(hx:Hid (xs[k]? =some x))(hs:aO t x=true)(ha:k=0∨∃y,xs[k-1]? =some y∧y<x)
  (hw:∀i y,i<k→xs[i]? =some y→aB x y=false∧aB y x=false):Hid (NT t xs (k+1)):=by
 obtain⟨h1,h2⟩:=h.out
 refine⟨by rw[F9 hx,h1,hs];rfl,?_⟩
 rw[gG hx]
 refine FR h2 fun y hy=> ?_
 obtain⟨i,hi,rfl⟩:=List.mem_iff_getElem.1 hy
 have hik:i<k:=by rw[List.length_take] at hi;omega
 have hxi:xs[i]? =some (xs.take k)[i]:=by rw[List.getElem_take,List.getElem?_eq_getElem]
 refine⟨?_,hw i _ hik hxi⟩
 rcases ha with rfl|⟨z,hz,hzx⟩
 ·omega
 ·by_cases e:i=k-1
  ·rw[←e,hxi] at hz;cases hz;exact hzx
  ·have h3:(xs.take k)[k-1]? =some z:=by rw[List.getElem?_take_of_lt (by omega)];exact hz
   have:=(pO h2 (show i<k-1 by omega) (List.getElem?_eq_getElem hi) h3).1
   omega
theorem UB{t:Int}{xs:List Int}(h:Hid (NT t xs xs.length)):aC t xs=(vT t 1 3&&vT (xs.length:Int) 1 70):=by
 obtain⟨h1,h2⟩:=h.out
 rw[List.take_length] at h1 h2
 unfold aC dR
 rw[h1,h2]
 cases xs with
 |nil=>simp[vT]
 |cons x r=>
  have hx:aO t x=true:=by rw[List.all_eq_true] at h1;exact h1 x (by simp)
  have:=aZ hx
  unfold vT
  rw[Bool.eq_iff_iff]
  simp only[List.length_cons,Bool.and_eq_true,decide_eq_true_eq,and_true]
  omega
theorem jD{t s:Int}{b:Bool}(h:Hid (aO t s=b))(w:World):Calls Tryz.prog 89 #[.int .i64 t,.int .i64 s] w fun e w' =>e= .returned (.bool b)∧w=w' :=
 (zV t s w).mono fun _ _ ⟨he,hw⟩=>⟨he.trans (aM h.out),hw⟩
theorem gC{a b:Int}{v:Bool}(h:Hid (aB a b=v))(ha:0≤a)(ha2:a<256)(hb:0≤b)(hb2:b<256)(w:World):
  Calls Tryz.prog 99 #[.int .i64 a,.int .i64 b] w fun e w' =>e= .returned (.bool v)∧∃n,w' =w.drewN n:=
 (sS a b ha ha2 hb hb2 w).mono fun _ _ ⟨he,hw⟩=>⟨he.trans (aM h.out),hw⟩
theorem nA{P:Program}{f:FuncId}{args:Array Value}{w:World}{a n:Nat}{v:Value}
  (h:Calls P f args (w.drewN (a+n)) fun e w' =>e= .returned v∧∃m,w' =(w.drewN (a+n)).drewN m):Calls P f args (w.drewN (a+n)) fun e w'' =>e= .returned v∧∃m,w'' =w.drewN (a+m):=
 h.mono fun _ _ ⟨he,m,hm⟩=>⟨he,n+m,by rw[hm,World.drewN_drewN,Nat.add_assoc]⟩
theorem BD{xs:List Int}{i:Nat}{x y:Int}(h:Hid (∀i' y,i' <i→xs[i']? =some y→aB x y=false∧aB y x=false))(hy:Hid (xs[i]? =some y))
  (h1:aB x y=false) (h2:aB y x=false):Hid (∀i' y,i' <i+1→xs[i']? =some y→aB x y=false∧aB y x=false):=by
 intro j z hj hz
 by_cases e:j=i
 ·subst e
  have:=hy.out.symm.trans hz
  cases this
  exact⟨h1,h2⟩
 ·exact h.out j z (by omega) hz
theorem RF(t:Int)(A:Option Addr)(nn c:Nat)(xs:List Int)(w:World)(hn:nn=xs.length)(hl:nn≤1048576)(hA:cB .i64 w A xs):
  Calls Tryz.prog 144 #[.int .i64 t,.slice A nn c] w fun e w' =>e= .returned (.bool (aC t xs))∧∃n,w' =w.drewN n:=by
 subst hn
 have HA:=zH hA
 clear hA
 go_enter Tryz.func144,Tryz.ntmps144
 go_wp2
 go_loopw [5] (fun i wr=>∃k:Nat,k≤xs.length∧i= .int .i64 k∧Hid (NT t xs k)∧∃n,wr=w.drewN n) (fun i _=>xs.length-(Go.RowKit.intOf i).toNat)
 case atStart=>exact⟨0,Nat.zero_le _,rfl,QP t xs,0,rfl⟩
 case round=>
  obtain⟨k,hk,rfl,hpre,n,rfl⟩:=hrel
  by_cases hlt:k<xs.length
  ·obtain⟨b,off,x,rfl,hcell,hx,_⟩:=HA.out.elem hlt
   rcases hs:aO t x with _|_
   ·have HS:=zH hs
    clear hs
    go_wp2
    go_quiet ((go_at_call 89;exact p6 (jD HS _)))
    go_wp2
    go_ret
    exact⟨aM (by rw[tE (wZ hx HS.out)]),_,World.drewN_drewN _ _ _⟩
   ·have HS:=zH hs
    obtain⟨_,_,hx0,_,hx1⟩:=aZ hs
    clear hs
    have HALL:Hid (∀i y,i<k→xs[i]? =some y→0≤y∧y<256):=by
     intro i y hi hy
     have h1:=hpre.out.1
     rw[List.all_eq_true] at h1
     have:=aZ (h1 y (List.mem_of_getElem? (by rw[List.getElem?_take_of_lt hi];exact hy)))
     omega
    by_cases hk0:k=0
    ·have hd:decide (0<k)=false:=by simp;omega
     have hadj:Hid (k=0∨∃y,xs[k-1]? =some y∧y<x):= .inl hk0
     have HK:=zH hk0
     clear hk0
     go_wp2
     go_quiet ((go_at_call 89;exact p6 (jD HS _)))
     go_wp2
     go_loopw [6] (fun j wr=>∃i:Nat,i≤k∧j= .int .i64 i∧Hid (∀i' y,i' <i→xs[i']? =some y→aB x y=false∧aB y x=false)∧∃m,wr=w.drewN m) (fun j _=>k-(Go.RowKit.intOf j).toNat)
     case atStart=>exact⟨0,Nat.zero_le _,rfl,fun i' y h=>by omega,_,World.drewN_drewN _ _ _⟩
     case round=>
      obtain⟨i,hi,rfl,hsofar,m,rfl⟩:=hrel
      by_cases hik:i<k
      ·obtain⟨b',off',y,hAA,hcy,hy,_⟩:=HA.out.elem (i:=i) (by omega)
       cases hAA
       have hin:i<xs.length:=by omega
       have hyr:=HALL.out i y hik hy.out
       obtain⟨hy0,hy1⟩:=hyr
       rcases h1:aB x y with _|_
       ·rcases h2:aB y x with _|_
        ·go_wp2
         go_quiet ((go_at_call 99;exact nA (sS _ _ (by omega) (by omega) (by omega) (by omega) _)))
         go_wp2
         go_roundw
         case rel=>exact⟨i+1,by omega,by go_num,BD hsofar hy h1 h2,_,rfl⟩
         case measure=>simp[Go.RowKit.intOf];omega
        ·have HF:=zH (lY (t:=t) hik hy.out hx.out (.inr (.inl h2)))
         go_wp2
         go_quiet ((go_at_call 99;exact nA (sS _ _ (by omega) (by omega) (by omega) (by omega) _)))
         go_wp2
         go_ret
         exact⟨aM HF.out.symm,_,World.drewN_drewN _ _ _⟩
       ·have HF:=zH (lY (t:=t) hik hy.out hx.out (.inr (.inr h1)))
        have H1:=zH h1
        clear h1
        go_wp2
        go_quiet ((go_at_call 99;exact nA (gC H1 (by omega) (by omega) (by omega) (by omega) _)))
        go_wp2
        go_ret
        exact⟨aM HF.out.symm,_,World.drewN_drewN _ _ _⟩
      ·obtain rfl:i=k:=by omega
       have hnext:=GG hpre hx HS.out hadj.out hsofar.out
       clear hsofar
       go_wp2
       go_roundw
       case rel=>exact⟨i+1,by omega,by go_num,hnext,_,rfl⟩
       case measure=>simp[Go.RowKit.intOf];omega
    ·have hd:decide (0<k)=true:=by simp;omega
     have e1:IntKind.i64.wrap ((k:Int)-1)=(k:Int)-1:=IntWalk.i64_in _ (by omega)
     have e2:(0:Int)≤(k:Int)-1:=by omega
     have e3:((k:Int)-1).toNat=k-1:=by omega
     have e4:(k:Int)-1<(xs.length:Int):=by omega
     have e5:(1:Int)≤(k:Int):=by omega
     obtain⟨b',off',z,hAA,hcz,hz,_⟩:=HA.out.elem (i:=k-1) (by omega)
     cases hAA
     by_cases hle:x≤z
     ·have hdd:decide (x≤z)=true:=by simp;omega
      have HF:=zH (lY (t:=t) (show k-1<k by omega) hz.out hx.out (.inl hle))
      go_wp2
      go_quiet ((go_at_call 89;exact p6 (jD HS _)))
      go_wp2
      go_ret
      exact⟨aM HF.out.symm,_,World.drewN_drewN _ _ _⟩
     have hdd:decide (x≤z)=false:=by simp;omega
     have hadj:Hid (k=0∨∃y,xs[k-1]? =some y∧y<x):= .inr ⟨z,hz.out,by omega⟩
     go_wp2
     go_quiet ((go_at_call 89;exact p6 (jD HS _)))
     clear e1 e2 e3 e4 e5 hdd hd
     go_wp2
     go_loopw [6] (fun j wr=>∃i:Nat,i≤k∧j= .int .i64 i∧Hid (∀i' y,i' <i→xs[i']? =some y→aB x y=false∧aB y x=false)∧∃m,wr=w.drewN m) (fun j _=>k-(Go.RowKit.intOf j).toNat)
     case atStart=>exact⟨0,Nat.zero_le _,rfl,fun i' y h=>by omega,_,World.drewN_drewN _ _ _⟩
     case round=>
      obtain⟨i,hi,rfl,hsofar,m,rfl⟩:=hrel
      by_cases hik:i<k
      ·obtain⟨b',off',y,hAA,hcy,hy,_⟩:=HA.out.elem (i:=i) (by omega)
       cases hAA
       have hin:i<xs.length:=by omega
       have hyr:=HALL.out i y hik hy.out
       obtain⟨hy0,hy1⟩:=hyr
       rcases h1:aB x y with _|_
       ·rcases h2:aB y x with _|_
        ·go_wp2
         go_quiet ((go_at_call 99;exact nA (sS _ _ (by omega) (by omega) (by omega) (by omega) _)))
         go_wp2
         go_roundw
         case rel=>exact⟨i+1,by omega,by go_num,BD hsofar hy h1 h2,_,rfl⟩
         case measure=>simp[Go.RowKit.intOf];omega
        ·have HF:=zH (lY (t:=t) hik hy.out hx.out (.inr (.inl h2)))
         go_wp2
         go_quiet ((go_at_call 99;exact nA (sS _ _ (by omega) (by omega) (by omega) (by omega) _)))
         go_wp2
         go_ret
         exact⟨aM HF.out.symm,_,World.drewN_drewN _ _ _⟩
       ·have HF:=zH (lY (t:=t) hik hy.out hx.out (.inr (.inr h1)))
        have H1:=zH h1
        clear h1
        go_wp2
        go_quiet ((go_at_call 99;exact nA (gC H1 (by omega) (by omega) (by omega) (by omega) _)))
        go_wp2
        go_ret
        exact⟨aM HF.out.symm,_,World.drewN_drewN _ _ _⟩
      ·obtain rfl:i=k:=by omega
       have hnext:=GG hpre hx HS.out hadj.out hsofar.out
       clear hsofar
       go_wp2
       go_roundw
       case rel=>exact⟨i+1,by omega,by go_num,hnext,_,rfl⟩
       case measure=>simp[Go.RowKit.intOf];omega
  ·obtain rfl:k=xs.length:=by omega
   have HE:=zH (UB hpre)
   clear hpre
   rcases ht:vT t 1 3 with _|_
   ·have HT:=zH ht
    clear ht
    go_wp2_with fail
    refine(I3 _ _ _ _).mono ?_
    rintro e w' ⟨rfl,rfl⟩
    rw[HT.out]
    go_wp2_with fail
    go_ret
    exact⟨aM (by rw[HE.out,HT.out];rfl),_,rfl⟩
   ·have HT:=zH ht
    clear ht
    go_wp2_with fail
    refine(I3 _ _ _ _).mono ?_
    rintro e w' ⟨rfl,rfl⟩
    rw[HT.out]
    go_wp2_with fail
    refine(I3 _ _ _ _).mono ?_
    rintro e w' ⟨rfl,rfl⟩
    go_wp2_with fail
    go_ret
    exact⟨aM (by rw[HE.out,HT.out];rfl),_,rfl⟩
def cF(t:Int)(xs:List Int)(s:Int):Bool:=aC t xs&&aO t s&&aF s xs
theorem gX{t s:Int}{b:Bool}(h:Hid (aO t s=b))(w:World):Calls Tryz.prog 104 #[.int .i64 t,.int .i64 s] w fun e w' =>e= .returned (.bool b)∧w=w' :=
 (M2 t s w).mono fun _ _ ⟨he,hw⟩=>⟨he.trans (aM h.out),hw⟩
theorem fZ{t:Int}{xs:List Int}{b:Bool}(h:Hid (aC t xs=b))(A:Option Addr)(nn c:Nat)(w:World)(hn:nn=xs.length)(hl:nn≤1048576)(hc:nn≤c)(hm:c≤maxLen)(hA:cB .i64 w A xs):
  Calls Tryz.prog 142 #[.int .i64 t,.slice A nn c] w fun e w' =>e= .returned (.bool b)∧∃n,w' =w.drewN n:=
 (QF t A nn c xs w hn hl hc hm hA).mono fun _ _ ⟨he,hw⟩=>⟨he.trans (aM h.out),hw⟩
theorem cU{t:Int}{xs:List Int}{b:Bool}(h:Hid (aC t xs=b))(A:Option Addr)(nn c:Nat)(w:World)(hn:nn=xs.length)(hl:nn≤1048576)(hA:cB .i64 w A xs):
  Calls Tryz.prog 144 #[.int .i64 t,.slice A nn c] w fun e w' =>e= .returned (.bool b)∧∃n,w' =w.drewN n:=
 (RF t A nn c xs w hn hl hA).mono fun _ _ ⟨he,hw⟩=>⟨he.trans (aM h.out),hw⟩
theorem PT(t:Int)(A:Option Addr)(nn c:Nat)(xs:List Int)(s:Int)(w:World)(hn:nn=xs.length)(hl:nn≤1048576)(hc:nn≤c)(hm:c≤maxLen)(hA:cB .i64 w A xs):
  Calls Tryz.prog 118 #[.int .i64 t,.slice A nn c,.int .i64 s] w fun e w' =>e= .returned (.bool (cF t xs s))∧∃n,w' =w.drewN n:=by
 subst hn
 have HM:=zH hm
 have HA:=zH hA
 clear hA hm
 rcases h1:aO t s with _|_
 ·have H1:=zH h1
  have HF:Hid (cF t xs s=false):=by unfold Hid cF;rw[h1];simp
  clear h1
  go_enter Tryz.func118,Tryz.ntmps118
  go_wp2_with fail
  refine(gX H1 _).mono ?_
  rintro e w' ⟨rfl,rfl⟩
  go_wp2_with fail
  go_ret
  exact⟨aM HF.out.symm,0,rfl⟩
 ·rcases h2:aC t xs with _|_
  ·have H1:=zH h1
   have H2:=zH h2
   have HF:Hid (cF t xs s=false):=by unfold Hid cF;rw[h2];rfl
   clear h1 h2
   go_enter Tryz.func118,Tryz.ntmps118
   go_wp2_with fail
   refine(gX H1 _).mono ?_
   rintro e w' ⟨rfl,rfl⟩
   go_wp2_with fail
   refine(fZ H2 _ _ _ _ rfl hl hc HM.out HA.out).mono ?_
   rintro e w' ⟨rfl,n,rfl⟩
   go_wp2_with fail
   go_ret
   exact⟨aM HF.out.symm,_,rfl⟩
  ·have H1:=zH h1
   have H2:=zH h2
   have HF:Hid (cF t xs s=aF s xs):=by unfold Hid cF;rw[h1,h2];rfl
   obtain⟨_,_,hs0,_,hs1⟩:=aZ h1
   clear h1 h2
   go_enter Tryz.func118,Tryz.ntmps118
   go_wp2_with fail
   refine(gX H1 _).mono ?_
   rintro e w' ⟨rfl,rfl⟩
   go_wp2_with fail
   refine(fZ H2 _ _ _ _ rfl hl hc HM.out HA.out).mono ?_
   rintro e w' ⟨rfl,n,rfl⟩
   go_wp2_with fail
   refine(nJ _ _ _ _ xs _ rfl hs0 hs1 (dD H2.out) hl (by exact HA.out)).mono ?_
   rintro e w' ⟨rfl,rfl⟩
   go_wp2_with fail
   go_ret
   exact⟨aM HF.out.symm,_,rfl⟩
def aV(xs:List Int):Int:=xs.foldl fM 0
def iC(t:Int)(xs:List Int):Int:=if aC t xs=true then aV xs else-1
theorem LE{xs:List Int}{i:Nat}{x:Int}(hx:Hid (xs[i]? =some x)):aV (xs.take (i+1))=fM (aV (xs.take i)) x:=by
 unfold aV;rw[gG hx,List.foldl_append];rfl
theorem l8{xs:List Int}(h:∀x∈xs,0≤x∧x<256):0≤aV xs∧aV xs<256:=by
 unfold aV
 have:∀(l:List Int) (a:Int),0≤a∧a<256→(∀x∈l,0≤x∧x<256)→0≤l.foldl fM a∧l.foldl fM a<256:=by
  intro l
  induction l with
  |nil=>intro a ha _;exact ha
  |cons x r ih=>
   intro a ha hr
   exact ih _ ⟨gB _ _,V8 _ _ ha.2 (hr x (by simp)).2⟩ fun y hy=>hr y (by simp[hy])
 exact this xs 0 (by omega) h
theorem zF{xs:List Int}(h:Hid (∀x∈xs,0≤x∧x<256))(k:Nat):0≤aV (xs.take k)∧aV (xs.take k)<256:=
 l8 fun x hx=>h.out x (List.mem_of_mem_take hx)
theorem r3(a:Nat)(ha:a<9223372036854775808):(BitVec.ofInt 64 (a:Int)).toNat=a:=by
 rw[BitVec.ofInt_natCast,BitVec.toNat_ofNat];exact Nat.mod_eq_of_lt (by omega)
theorem B0(a b:Int)(ha:0≤a)(ha2:a<1024)(hb:0≤b)(hb2:b<1024):bits .or .i64 a b=fM a b:=by
 obtain⟨a,rfl⟩:=Int.eq_ofNat_of_zero_le ha
 obtain⟨b,rfl⟩:=Int.eq_ofNat_of_zero_le hb
 have hx:a ||| b<2^10:=Nat.or_lt_two_pow (by omega) (by omega)
 show IntKind.i64.wrap ((BitVec.ofInt 64 (a:Int) ||| BitVec.ofInt 64 (b:Int)).toNat:Int)=_
 rw[BitVec.toNat_or,r3 a (by omega),r3 b (by omega),IntKind.wrap_i64,SW]
 omega
theorem mM(a b:Int)(ha:0≤a)(ha2:a<1024)(hb:0≤b)(_:b<1024):bits .and .i64 a b=aQ a b:=by
 obtain⟨a,rfl⟩:=Int.eq_ofNat_of_zero_le ha
 obtain⟨b,rfl⟩:=Int.eq_ofNat_of_zero_le hb
 have hx:a &&& b≤a:=Nat.and_le_left
 show IntKind.i64.wrap ((BitVec.ofInt 64 (a:Int) &&& BitVec.ofInt 64 (b:Int)).toNat:Int)=_
 rw[BitVec.toNat_and,r3 a (by omega),r3 b (by omega),IntKind.wrap_i64,EJ]
 omega
theorem zY(t:Int)(A:Option Addr)(nn c:Nat)(xs:List Int)(w:World)(hn:nn=xs.length)(hl:nn≤1048576)(hc:nn≤c)(hm:c≤maxLen)(hA:cB .i64 w A xs):
  Calls Tryz.prog 120 #[.int .i64 t,.slice A nn c] w fun e w' =>e= .returned (.int .i64 (iC t xs))∧∃n,w' =w.drewN n:=by
 subst hn
 have HM:=zH hm
 have HA:=zH hA
 clear hA hm
 rcases h2:aC t xs with _|_
 ·have H2:=zH h2
  have HF:Hid (iC t xs= -1):=by unfold Hid iC;rw[h2];rfl
  clear h2
  go_enter Tryz.func120,Tryz.ntmps120
  go_wp2_with fail
  refine(fZ H2 _ _ _ _ rfl hl hc HM.out HA.out).mono ?_
  rintro e w' ⟨rfl,n,rfl⟩
  go_wp2_with fail
  go_ret
  exact⟨jR HF.out.symm,_,rfl⟩
 ·have H2:=zH h2
  have HR:=zH (dD h2)
  have HF:Hid (iC t xs=aV xs):=by unfold Hid iC;rw[h2];rfl
  clear h2
  go_enter Tryz.func120,Tryz.ntmps120
  go_wp2_with fail
  refine(fZ H2 _ _ _ _ rfl hl hc HM.out HA.out).mono ?_
  rintro e w' ⟨rfl,n,rfl⟩
  go_wp2_with fail
  go_loop [5,14] (fun g i=>∃k:Nat,k≤xs.length∧i= .int .i64 k∧g= .int .i64 (aV (xs.take k))) (fun _ i=>xs.length-(Go.RowKit.intOf i).toNat)
  case atStart=>exact⟨0,Nat.zero_le _,rfl,rfl⟩
  case round=>
   obtain⟨k,hk,rfl,rfl⟩:=hrel
   by_cases hlt:k<xs.length
   ·obtain⟨b,off,x,rfl,hcell,hx,_⟩:=HA.out.elem hlt
    obtain⟨he1,he2⟩:=HR.out x (eG hx)
    obtain⟨hg1,hg2⟩:=zF HR k
    have HU:Hid (aV (xs.take (k+1))=bits .or .i64 (aV (xs.take k)) x):=by unfold Hid;rw[LE hx,B0 _ _ hg1 (by omega) he1 (by omega)]
    go_wp2
    go_round
    case rel=>exact⟨k+1,by omega,by go_num,by rw[HU.out]⟩
    case measure=>simp[Go.RowKit.intOf];omega
   ·obtain rfl:k=xs.length:=by omega
    have HT:Hid (aV (xs.take xs.length)=iC t xs):=by unfold Hid;rw[List.take_length,HF.out]
    go_wp2
    go_ret
    exact⟨jR (by first|exact HT.out|(rw[HF.out])),_,rfl⟩
def fK(t s:Int):List Int:=if aO t s=true then[s] else[]
theorem pD(t s:Int)(w:World):Calls Tryz.prog 159 #[.int .i64 t,.int .i64 s] w fun e w' =>∃v,e= .returned v∧aS w' w.heap.size v (fK t s)∧Below w.heap.size w w' :=by
 rcases h1:aO t s with _|_
 ·have H1:=zH h1
  have HF:Hid (fK t s=[]):=by unfold Hid fK;rw[h1];rfl
  clear h1
  go_enter Tryz.func159,Tryz.ntmps159
  go_wp2_with fail
  refine(gX H1 _).mono ?_
  rintro e w' ⟨rfl,rfl⟩
  go_wp2_with fail
  go_ret
  exact⟨_,rfl,by rw[HF.out];exact aS.nil _ _,Below.refl _ _⟩
 ·have H1:=zH h1
  have HF:Hid (fK t s=[s]):=by unfold Hid fK;rw[h1];rfl
  clear h1
  go_enter Tryz.func159,Tryz.ntmps159
  go_wp2_with fail
  refine(gX H1 _).mono ?_
  rintro e w' ⟨rfl,rfl⟩
  go_wp2_with fail
  go_ret
  exact⟨_,rfl,by rw[HF.out];exact aS.lit _ _ [s] (Nat.le_refl _) (by simp[maxLen]),(Below.refl _ _).alloc (Nat.le_refl _) _⟩
def Rd(w:World)(g:Nat)(u:Nat):Prop:=
 ∃(A:Option Addr) (c:Nat) (zs:List Int) (p:Nat),w.heap[g]? =some (.cells #[.slice A zs.length c,.int .i64 p] 118 (0,0))∧cB .u8 w A zs∧zs.length≤2000∧p≤u∧
  (∀z∈zs,0≤z∧z≤255)∧(∀ad,0<zs.length→A=some ad→ad.block<g)
theorem Rd.below{w w' :World}{g u:Nat}(h:Rd w g u)(hb:Below w.heap.size w w'):Rd w' g u:=by
 obtain⟨A,c,zs,p,h1,h2,h3,h4,h5,h6⟩:=h
 exact⟨A,c,zs,p,(hb.block g (Array.getElem?_eq_some_iff.1 h1).1).trans h1,h2.below hb,h3,h4,h5,h6⟩
theorem Rd.drewN{w:World}{g u:Nat}(h:Rd w g u)(n:Nat):Rd (w.drewN n) g u:=h
theorem Rd.lt{w:World}{g u:Nat}(h:Rd w g u):g<w.heap.size:=by
 obtain⟨A,c,zs,p,h1,_⟩:=h
 exact(Array.getElem?_eq_some_iff.1 h1).1
theorem eM{a w:World}{row:Option Nat}(h:a.grownBy w row)(n:Nat):a.grownBy (w.drewN n) row:=⟨h.os,h.tape,h.output,h.size,h.block⟩
theorem Rd.alloc{w:World}{g u:Nat}(h:Rd w g u)(o:Obj):Rd (w.alloc o) g u:=h.below ((Below.refl _ _).alloc (Nat.le_refl _) o)
theorem bB{a w:World}{row:Option Nat}(h:a.grownBy w row)(o:Obj):a.grownBy (w.alloc o) row:=
 ⟨h.os,h.tape,h.output,Nat.le_trans h.size (by simp),fun i hi hne=>(Below.heap_alloc w o i (Nat.lt_of_lt_of_le hi h.size)).trans (h.block i hi hne)⟩
theorem fU{a w w' :World}{row:Option Nat}(h:a.grownBy w row)(hb:Below w.heap.size w w'):a.grownBy w' row:=
 ⟨hb.os.trans h.os,hb.tape.trans h.tape,hb.output.trans h.output,Nat.le_trans h.size hb.size,fun i hi hn=>(hb.block i (Nat.lt_of_lt_of_le hi h.size)).trans (h.block i hi hn)⟩
theorem sP{a w w' :World}{row:Option Nat}{r:Option Nat}(h:a.grownBy w row)(hg:w.grownBy w' r)(hr:∀k,r=some k→a.heap.size≤k):a.grownBy w' row:=
 ⟨hg.os.trans h.os,hg.tape.trans h.tape,hg.output.trans h.output,Nat.le_trans h.size hg.size,fun i hi hn=>(hg.block i (Nat.lt_of_lt_of_le hi h.size) (fun e=>by have:=hr i e.symm;omega)).trans (h.block i hi hn)⟩
theorem WK{xs:List Int}(h:∀x∈xs,(Lit.int .u8 x).wf=true):∀z∈xs,0≤z∧z≤255:=fun z hz=>bounds_u8 (h z hz)
theorem pX{t:Int}{xs:List Int}{s:Int}{b:Bool}(h:Hid (cF t xs s=b))(A:Option Addr)(nn c:Nat)(w:World)(hn:nn=xs.length)(hl:nn≤1048576)(hc:nn≤c)(hm:c≤maxLen)(hA:cB .i64 w A xs):
  Calls Tryz.prog 118 #[.int .i64 t,.slice A nn c,.int .i64 s] w fun e w' =>e= .returned (.bool b)∧∃n,w' =w.drewN n:=
 (PT t A nn c xs s w hn hl hc hm hA).mono fun _ _ ⟨he,hw⟩=>⟨he.trans (aM h.out),hw⟩
theorem cW{t k:Int}(h1:1≤t)(h3:t≤3)(h0:0≤k)(hk:k≤aJ t):aO t k=true:=by
 unfold aO;apply decide_eq_true;exact⟨h1,h3,h0,hk⟩
theorem fG{t s:Int}(h:aO t s=true):aC t [s]=true:=by
 unfold aC dR g7;simp[h]
end Go.Proofs.YtfhjcacfchkdpaaGreatDoor
