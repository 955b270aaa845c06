/-
  What the proofs of this seat's statements share (Tidy, MathB, MathC, Shelf, Great).
-/
import Derived.OwnWalk
import Derived.Shelf.Strings.Builder1
import Derived.Shelf.Small.Bits
import Derived.Shelf.Small.Strs
import Derived.Shelf.Small.Wraps
import Derived.Shelf.Strings.BuilderF
import Derived.Shelf.Strings.BuilderK
import Derived.Shelf.Strconv.Itoa0
import Derived.Shelf.Strconv.Itoa1
import Derived.Shelf.LaysM
import Derived.Shelf.Strconv.Itoa2
import Derived.Shelf.Strconv.Itoa3
import Derived.Shelf.Strings.Search1
import Derived.Shelf.Strings.Search2
import Derived.Shelf.Strings.Cut
import Derived.Shelf.Strings.Shaped
import Derived.Shelf.Sort.Plain
import Derived.Shelf.Strings.Prefix
import Derived.Shelf.Strings.BuilderCap
import Derived.Shelf.Slices.Turned
import Derived.Ground.Names2Prog
import Derived.Shelf.Slices.Clone
import Derived.Shelf.Slices.SearchI
import Derived.Shelf.Slices.In.SortNone
import Derived.Test.YtfhjcacfchkdpaaGreatDoorProg
import Derived.Lib.SlKeysI
import Derived.Test.YtfhjcacfchkdpaaGreatDoorU2
set_option maxRecDepth 100000
set_option maxHeartbeats 32000000
namespace Go.Proofs.YtfhjcacfchkdpaaGreatDoor
open Go.RowKit
theorem kB{W:World}{ops:Array Oper}{rest:List Oper}{o:Oper}{a:Act}{Q:Exit→Act→World→Prop}(hgd:o.guard=none)(s x:Operand)
  (ho:o.op= .call {callee:= .builtin .append,args:= #[s,x],argTypes:= #[122,122]}) (base:Nat) (v:Value) (xs:List Int) (hs:a.eval s=v) (hown:aS W base v xs)
  (y:Int) (hx:a.eval x= .slice (some ⟨W.heap.size,0,none⟩) 1 1) (hl:xs.length≤1048576) (hb:base≤W.heap.size)
  (h:∀v' w',aS w' base v' (xs++[y])→(W.alloc (.cells #[.int .i64 y] 3)).grownBy w' v.ownBlock→wpList Tryz.prog ops Q rest (a.put o.dst v') w'):
  wpList Tryz.prog ops Q (o::rest) a (W.alloc (.cells #[.int .i64 y] 3)):=by
 obtain⟨i0,hi0,hz0,hz1,hz2⟩:=info_parts pS
 refine wpList_append_own _ hgd s x 122 ho base 3 i0 (.int .i64 0) 1 8 Tryz.underlying122 hi0 hz0 hz1 hz2 rfl (by decide) v xs.length (xs.map (Value.int .i64)) hs (World.ownsRow.alloc hown _)
  ⟨W.heap.size,0,none⟩ 1 1 [.int .i64 y] hx rfl (cell_one_new _ _ _) (fun u hu=>by rw[List.mem_singleton] at hu;subst hu;rfl) (by simp only[maxLen];omega) (by omega) (by rw[World.size_alloc];omega) ?_
 intro v' w' h1 h2 _
 refine h v' w' ?_ h2
 unfold aS
 simpa using h1
theorem gP{B:Nat}{a W w' :World}{base:Nat}{v:Value}{xs:List Int}{o:Obj}(h:Below B a W)(hB:B≤W.heap.size)(hown:aS W base v xs)(hbase:B≤base)(hg:(W.alloc o).grownBy w' v.ownBlock):Below B a w' :=
 (h.alloc hB o).grown hg (by simp;omega) fun k e=>by have:=(World.ownsRow.lt hown k e).1;omega
def qN(xs:List Int)(s:Int)(j:Nat):Bool:=decide (s∈xs.take j)
def vO(xs:List Int)(s:Int)(j:Nat):Bool:=(xs.take j).all (fun x=>decide (x=s)|| !aB s x)
def zR(xs:List Int)(s:Int):Bool:=decide (s∈xs)&&xs.all (fun x=>decide (x=s)|| !aB s x)
def iO(xs:List Int)(k:Nat):List Int:=((List.range k).map (fun n:Nat=>(n:Int))).filter (zR xs)
def cR(xs:List Int):List Int:=iO xs 256
theorem C6{xs:List Int}{s x:Int}{j:Nat}{b:Bool}(h:Hid (qN xs s j=b))(hx:Hid (xs[j]? =some x)):qN xs s (j+1)=(b||decide (x=s)):=by
 rw[←h.out];unfold qN;rw[gG hx,Bool.eq_iff_iff];simp only[List.mem_append,List.mem_singleton,Bool.or_eq_true,decide_eq_true_eq];exact or_congr Iff.rfl eq_comm
theorem FQ{xs:List Int}{s x:Int}{j:Nat}{b:Bool}(h:Hid (vO xs s j=b))(hx:Hid (xs[j]? =some x)):vO xs s (j+1)=(b&&(decide (x=s)|| !aB s x)):=by
 rw[←h.out];unfold vO;rw[gG hx,List.all_append];simp
theorem ST{xs:List Int}{s:Int}{b1 b2:Bool}(h1:Hid (qN xs s xs.length=b1))(h2:Hid (vO xs s xs.length=b2)):zR xs s=(b1&&b2):=by
 rw[←h1.out,←h2.out];unfold zR qN vO;rw[List.take_length]
theorem NO(xs:List Int)(k:Nat):iO xs (k+1)=iO xs k++(if zR xs k=true then[(k:Int)] else[]):=by
 unfold iO
 rw[List.range_succ,List.map_append,List.filter_append]
 simp only[List.map_cons,List.map_nil,List.filter_cons,List.filter_nil]
theorem QI(xs:List Int)(k:Nat):(iO xs k).length≤k:=by
 unfold iO
 refine Nat.le_trans (List.length_filter_le _ _) (by simp)
theorem KX(A:Option Addr)(nn c:Nat)(xs:List Int)(w:World)(hn:nn=xs.length)(hl:nn≤1048576)(hr:∀x∈xs,0≤x∧x<256)(hA:cB .i64 w A xs):
  Calls Tryz.prog 145 #[.slice A nn c] w fun e w' =>∃v,e= .returned v∧aS w' w.heap.size v (cR xs)∧Below w.heap.size w w' :=by
 subst hn
 have HA:=zH hA
 have HR:=zH hr
 clear hr hA
 go_enter Tryz.func145,Tryz.ntmps145
 go_wp2
 go_loopw [3,4] (fun v i wr=>∃k:Nat,k≤256∧i= .int .i64 k∧aS wr w.heap.size v (iO xs k)∧Below w.heap.size w wr) (fun _ i _=>256-(Go.RowKit.intOf i).toNat)
 case atStart=>exact⟨0,by omega,rfl,aS.lit _ _ [] (Nat.le_refl _) (by simp[maxLen]),(Below.refl _ _).alloc (Nat.le_refl _) _⟩
 case round=>
  obtain⟨k,hk,rfl,hown,hbel⟩:=hrel
  have HOW:=zH hown
  have HB:=zH hbel
  clear hown hbel
  by_cases hlt:k<256
  ·have hd256:decide ((k:Int)<256)=true:=decide_eq_true (by omega)
   go_wp2
   clear hd256
   go_loopw [5,6,7] (fun h g j wi=>∃(i:Nat) (b1 b2:Bool),i≤xs.length∧j= .int .i64 i∧h= .bool b1∧g= .bool b2∧Hid (qN xs k i=b1)∧Hid (vO xs k i=b2)∧∃m,wi=wr.drewN m) (fun _ _ j _=>xs.length-(Go.RowKit.intOf j).toNat)
   case atStart=>exact⟨0,false,true,Nat.zero_le _,rfl,rfl,rfl,by unfold Hid qN;simp,rfl,0,rfl⟩
   case round=>
    obtain⟨i,b1,b2,hi,rfl,rfl,rfl,hh,ht,m,rfl⟩:=hrel
    by_cases hil:i<xs.length
    ·obtain⟨b,off,x,rfl,hcell,hx,_⟩:=(HA.out.below HB.out).elem hil
     obtain⟨hx0,hx1⟩:=HR.out x (eG hx)
     by_cases hxs:x=(k:Int)
     ·have hq1:(x==(k:Int))=true:=by simp[hxs]
      have hq2:(x != (k:Int))=false:=by simp[hxs]
      have HH:Hid (qN xs k (i+1)=true):=by unfold Hid;rw[C6 hh hx,decide_eq_true hxs];simp
      have HT:Hid (vO xs k (i+1)=b2):=by unfold Hid;rw[FQ ht hx,decide_eq_true hxs];simp
      clear hxs
      cases b1
      ·go_wp2_with fail
       go_roundw
       case rel=>exact⟨i+1,true,b2,by omega,by go_num,rfl,rfl,HH,HT,_,rfl⟩
       case measure=>simp[Go.RowKit.intOf];omega
      ·go_wp2_with fail
       go_roundw
       case rel=>exact⟨i+1,true,b2,by omega,by go_num,rfl,rfl,HH,HT,_,rfl⟩
       case measure=>simp[Go.RowKit.intOf];omega
     ·have hq1:(x==(k:Int))=false:=by simp[hxs]
      have hq2:(x != (k:Int))=true:=by simp[hxs]
      have HH:Hid (qN xs k (i+1)=b1):=by unfold Hid;rw[C6 hh hx,decide_eq_false hxs];simp
      obtain⟨wb,HW⟩:∃wb,Hid (aB (k:Int) x=wb):=⟨_,rfl⟩
      have HT:Hid (vO xs k (i+1)=(b2&& !wb)):=by unfold Hid;rw[FQ ht hx,decide_eq_false hxs,HW.out];simp
      clear hxs
      cases b1
      ·cases wb
       ·go_wp2_with fail
        refine(gC HW (by omega) (by omega) hx0 hx1 _).mono ?_
        rintro e w' ⟨rfl,m2,rfl⟩
        go_wp2_with fail
        go_roundw
        case rel=>exact⟨i+1,false,b2,by omega,by go_num,rfl,rfl,HH,by unfold Hid;rw[HT.out];simp,_,rfl⟩
        case measure=>simp[Go.RowKit.intOf];omega
       ·go_wp2_with fail
        refine(gC HW (by omega) (by omega) hx0 hx1 _).mono ?_
        rintro e w' ⟨rfl,m2,rfl⟩
        go_wp2_with fail
        go_roundw
        case rel=>exact⟨i+1,false,false,by omega,by go_num,rfl,rfl,HH,by unfold Hid;rw[HT.out];simp,_,rfl⟩
        case measure=>simp[Go.RowKit.intOf];omega
      ·cases wb
       ·go_wp2_with fail
        refine(gC HW (by omega) (by omega) hx0 hx1 _).mono ?_
        rintro e w' ⟨rfl,m2,rfl⟩
        go_wp2_with fail
        go_roundw
        case rel=>exact⟨i+1,true,b2,by omega,by go_num,rfl,rfl,HH,by unfold Hid;rw[HT.out];simp,_,rfl⟩
        case measure=>simp[Go.RowKit.intOf];omega
       ·go_wp2_with fail
        refine(gC HW (by omega) (by omega) hx0 hx1 _).mono ?_
        rintro e w' ⟨rfl,m2,rfl⟩
        go_wp2_with fail
        go_roundw
        case rel=>exact⟨i+1,true,false,by omega,by go_num,rfl,rfl,HH,by unfold Hid;rw[HT.out];simp,_,rfl⟩
        case measure=>simp[Go.RowKit.intOf];omega
    ·obtain rfl:i=xs.length:=by omega
     have HK:=zH (ST hh ht)
     have HN:=zH (NO xs k)
     have hlen:=QI xs k
     clear hh ht
     cases b1
     ·have HN2:Hid (iO xs (k+1)=iO xs k):=by unfold Hid;rw[HN.out,HK.out];simp
      go_wp2_with fail
      go_roundw
      case rel=>exact⟨k+1,by omega,by go_num,by rw[HN2.out];exact HOW.out,aE HB.out m⟩
      case measure=>simp[Go.RowKit.intOf];omega
     ·cases b2
      ·have HN2:Hid (iO xs (k+1)=iO xs k):=by unfold Hid;rw[HN.out,HK.out];simp
       go_wp2_with fail
       go_roundw
       case rel=>exact⟨k+1,by omega,by go_num,by rw[HN2.out];exact HOW.out,aE HB.out m⟩
       case measure=>simp[Go.RowKit.intOf];omega
      ·have HN2:Hid (iO xs (k+1)=iO xs k++[(k:Int)]):=by unfold Hid;rw[HN.out,HK.out];simp
       have HOW2:Hid (aS (wr.drewN m) w.heap.size u3 (iO xs k)):=HOW.out
       have HB2:=zH (aE HB.out m)
       go_wp2_with (at_builtin;refine kB (W:=wr.drewN m) rfl _ _ rfl w.heap.size u3 (iO xs k) rfl HOW2.out (k:Int) rfl (by omega) HB2.out.size ?_;intro v' w' hown' hgrow)
       have hb' :=gP HB2.out HB2.out.size HOW2.out (Nat.le_refl _) hgrow
       go_roundw
       case rel=>exact⟨k+1,by omega,by go_num,by rw[HN2.out];exact hown',hb'⟩
       case measure=>simp[Go.RowKit.intOf];omega
  ·obtain rfl:k=256:=by omega
   go_wp2
   go_ret
   exact⟨_,rfl,HOW.out,HB.out⟩
def uB(t:Int)(xs:List Int):List Int:=if dR t xs=true then cR xs else[]
theorem TR{t:Int}{xs:List Int}(h:dR t xs=true):uB t xs=cR xs:=by unfold uB;rw[h];rfl
theorem dA{a b:Int}(ha:0≤a):aB a b=true↔∀i,a.toNat.testBit i=true→b.toNat.testBit i=true:=by
 unfold aB aQ
 rw[decide_eq_true_eq]
 constructor
 ·intro h i hi
  have h:a.toNat &&& b.toNat=a.toNat:=by omega
  have:=congrArg (fun x=>x.testBit i) h
  simp only[Nat.testBit_and,hi,Bool.true_and] at this
  exact this
 ·intro h
  have:a.toNat &&& b.toNat=a.toNat:=by
   apply Nat.eq_of_testBit_eq
   intro i
   rw[Nat.testBit_and]
   cases hi:a.toNat.testBit i
   ·rfl
   ·rw[h i hi];rfl
  omega
theorem cC{a b c:Int}(ha:0≤a)(hb:0≤b)(h1:aB a b=true)(h2:aB b c=true):aB a c=true:=by
 rw[dA ha] at*
 rw[dA hb] at h2
 exact fun i hi=>h2 i (h1 i hi)
theorem jB{a b:Int}(ha:0≤a)(hb:0≤b)(h1:aB a b=true)(h2:aB b a=true):a=b:=by
 have:=gZ h1 hb;have:=gZ h2 ha;omega
theorem tF(a b:Int)(ha:0≤a):aB a (fM a b)=true:=by
 rw[dA ha];intro i hi
 show((((a.toNat ||| b.toNat:Nat):Int)).toNat).testBit i=true
 rw[Int.toNat_natCast,Nat.testBit_or,hi];rfl
theorem o6(a b:Int)(hb:0≤b):aB b (fM a b)=true:=by
 rw[dA hb];intro i hi
 show((((a.toNat ||| b.toNat:Nat):Int)).toNat).testBit i=true
 rw[Int.toNat_natCast,Nat.testBit_or,hi,Bool.or_true]
theorem rQ{a b c:Int}(ha:0≤a)(hb:0≤b)(h1:aB a c=true)(h2:aB b c=true):aB (fM a b) c=true:=by
 rw[dA (gB _ _)]
 rw[dA ha] at h1
 rw[dA hb] at h2
 intro i hi
 change ((((a.toNat ||| b.toNat:Nat):Int)).toNat).testBit i=true at hi
 rw[Int.toNat_natCast,Nat.testBit_or,Bool.or_eq_true] at hi
 rcases hi with hi|hi
 ·exact h1 i hi
 ·exact h2 i hi
theorem yC:∀(xs:List Int) (a:Int),0≤a→(∀x∈xs,0≤x)→aB a (xs.foldl fM a)=true∧(∀x∈xs,aB x (xs.foldl fM a)=true)∧0≤xs.foldl fM a
 |[],a,ha,_=>⟨dG a ha,by simp,ha⟩
 |y::r,a,ha,hr=>by
  have hy:=hr y (by simp)
  obtain⟨h1,h2,h3⟩:=yC r (fM a y) (gB _ _) fun x hx=>hr x (by simp[hx])
  refine⟨cC ha (gB _ _) (tF a y ha) h1,fun x hx=> ?_,h3⟩
  rcases List.mem_cons.1 hx with rfl|hx
  ·exact cC hy (gB _ _) (o6 a _ hy) h1
  ·exact h2 x hx
theorem BO:∀(xs:List Int) (a c:Int),0≤a→(∀x∈xs,0≤x)→aB a c=true→(∀x∈xs,aB x c=true)→aB (xs.foldl fM a) c=true
 |[],_,_,_,_,h,_=>h
 |y::r,a,c,ha,hr,h,hc=>
  BO r (fM a y) c (gB _ _) (fun x hx=>hr x (by simp[hx])) (rQ ha (hr y (by simp)) h (hc y (by simp))) fun x hx=>hc x (by simp[hx])
theorem pY(c:Int):aB 0 c=true:=by unfold aB aQ;simp
theorem rV{xs:List Int}(hr:∀x∈xs,0≤x){x:Int}(hx:x∈xs):aB x (aV xs)=true:=(yC xs 0 (by omega) hr).2.1 x hx
theorem nX{xs:List Int}(hr:∀x∈xs,0≤x){c:Int}(h:∀x∈xs,aB x c=true):aB (aV xs) c=true:=BO xs 0 c (by omega) hr (pY c) h
theorem iH{t x:Int}(ht1:1≤t)(ht3:t≤3)(h0:0≤x):aB x (aJ t)=true↔x≤aJ t:=by
 constructor
 ·exact fun h=>gZ h (bH t).1
 ·intro h
  rw[dA h0]
  intro i hi
  have key:∀n:Nat,x.toNat<2^n→(2^n-1).testBit i=true:=by
   intro n hn
   rw[Nat.testBit_two_pow_sub_one,decide_eq_true_eq]
   rcases Nat.lt_or_ge i n with h1|h1
   ·exact h1
   ·rw[Nat.testBit_lt_two_pow (Nat.lt_of_lt_of_le hn (Nat.pow_le_pow_right (by omega) h1))] at hi
    cases hi
  have:t=1∨t=2∨t=3:=by omega
  rcases this with rfl|rfl|rfl
  ·exact key 2 (by simp[aJ] at h;omega)
  ·exact key 4 (by simp[aJ] at h;omega)
  ·exact key 8 (by simp[aJ] at h;omega)
theorem eS{t:Int}{xs:List Int}(h:aC t xs=true):∀x∈xs,aO t x=true:=by
 have:=sQ h
 unfold dR at this
 rw[Bool.and_eq_true,List.all_eq_true] at this
 exact this.2
theorem dJ{t:Int}{xs:List Int}(h:aC t xs=true):1≤xs.length∧xs.length≤70:=by
 have:=sQ h
 unfold dR at this
 rw[Bool.and_eq_true,decide_eq_true_eq] at this
 exact this.1
theorem cN{t:Int}{xs:List Int}(h:aC t xs=true):1≤t∧t≤3:=by
 have h1:=dJ h
 cases xs with
 |nil=>simp at h1
 |cons x r=>have:=aZ (eS h x (by simp));omega
theorem RM{t:Int}{xs:List Int}(h:aC t xs=true):aO t (aV xs)=true:=by
 obtain⟨h1,h3⟩:=cN h
 have hr:∀x∈xs,0≤x:=fun x hx=>(dD h x hx).1
 have hu:=l8 (dD h)
 refine cW h1 h3 hu.1 ((iH h1 h3 hu.1).1 (nX hr fun x hx=> ?_))
 have:=aZ (eS h x hx)
 exact(iH h1 h3 (hr x hx)).2 this.2.2.2.1
theorem qV:∀{xs ys:List Int},xs.Pairwise (·<·)→ys.Pairwise (·<·)→(∀x,x∈xs↔x∈ys)→xs=ys
 |[],[],_,_,_=>rfl
 |[],y::r,_,_,h=>by have:=(h y).2 (by simp);simp at this
 |x::r,[],_,_,h=>by have:=(h x).1 (by simp);simp at this
 |x::r,y::q,hx,hy,h=>by
  rw[List.pairwise_cons] at hx hy
  have e:x=y:=by
   have h1:=(h x).1 (by simp)
   have h2:=(h y).2 (by simp)
   rcases List.mem_cons.1 h1 with h1|h1
   ·exact h1
   ·rcases List.mem_cons.1 h2 with h2|h2
    ·exact h2.symm
    ·have:=hy.1 x h1;have:=hx.1 y h2;omega
  subst e
  congr 1
  refine qV hx.2 hy.2 fun z=>⟨fun hz=> ?_,fun hz=> ?_⟩
  ·rcases List.mem_cons.1 ((h z).1 (by simp[hz])) with e|h1
   ·subst e;have:=hx.1 z hz;omega
   ·exact h1
  ·rcases List.mem_cons.1 ((h z).2 (by simp[hz])) with e|h1
   ·subst e;have:=hy.1 z hz;omega
   ·exact h1
theorem F6{t:Int}{xs ys:List Int}(hx:aC t xs=true)(hy:aC t ys=true)(h:∀k,0≤k→k≤aJ t→cF t xs k=cF t ys k):xs=ys:=by
 have sub:∀{xs ys:List Int},aC t xs=true→aC t ys=true→(∀k,0≤k→k≤aJ t→cF t xs k=cF t ys k)→∀x∈xs,x∈ys:=by
  intro xs ys hx hy h x hm
  have hsx:=aZ (eS hx x hm)
  have s1:∀{zs:List Int},aC t zs=true→∀{z k:Int},z∈zs→aO t k=true→aB k z=true→cF t zs k=true:=by
   intro zs hz z k hm hk hw
   unfold cF aF
   rw[hz,hk,Bool.true_and,Bool.true_and,List.any_eq_true]
   exact⟨z,hm,hw⟩
  have s2:∀{zs:List Int},∀{k:Int},cF t zs k=true→∃z∈zs,aB k z=true:=by
   intro zs k hk
   unfold cF aF at hk
   simp only[Bool.and_eq_true,List.any_eq_true] at hk
   exact hk.2
  have hxx:=s1 hx hm (eS hx x hm) (dG x hsx.2.2.1)
  rw[h x hsx.2.2.1 hsx.2.2.2.1] at hxx
  obtain⟨y,hmy,hwy⟩:=s2 hxx
  have hsy:=aZ (eS hy y hmy)
  have hyy:=s1 hy hmy (eS hy y hmy) (dG y hsy.2.2.1)
  rw[←h y hsy.2.2.1 hsy.2.2.2.1] at hyy
  obtain⟨z,hmz,hwz⟩:=s2 hyy
  have hsz:=aZ (eS hx z hmz)
  have hxz:=cC hsx.2.2.1 hsy.2.2.1 hwy hwz
  have e:x=z:=by
   obtain⟨i,hi,rfl⟩:=List.mem_iff_getElem.1 hm
   obtain⟨j,hj,rfl⟩:=List.mem_iff_getElem.1 hmz
   have hp:g7 xs=true:=by unfold aC at hx;rw[Bool.and_eq_true] at hx;exact hx.2
   rcases Nat.lt_trichotomy i j with h1|h1|h1
   ·have:=(pO hp h1 (List.getElem?_eq_getElem hi) (List.getElem?_eq_getElem hj)).2.1
    rw[hxz] at this;cases this
   ·subst h1;rfl
   ·have:=(pO hp h1 (List.getElem?_eq_getElem hj) (List.getElem?_eq_getElem hi)).2.2
    rw[hxz] at this;cases this
  subst e
  have:=jB hsx.2.2.1 hsy.2.2.1 hwy hwz
  rw[this];exact hmy
 have asc:∀{zs:List Int},aC t zs=true→zs.Pairwise (·<·):=by
  intro zs hz
  have hp:g7 zs=true:=by unfold aC at hz;rw[Bool.and_eq_true] at hz;exact hz.2
  refine(of_decide_eq_true hp).imp ?_
  intro a b hab
  simp[nT] at hab
  exact hab.1.1
 exact qV (asc hx) (asc hy) fun x=>⟨sub hx hy h x,sub hy hx (fun k a b=>(h k a b).symm) x⟩
def eL:List Int→List Int
 |[]=>[]
 |a::r=>if aF a r=true then eL r else a::eL r
theorem bP{s:Int}{xs:List Int}:aF s xs=true↔∃x∈xs,aB s x=true:=by unfold aF;rw[List.any_eq_true]
theorem wH:∀(ys:List Int),∀y∈eL ys,y∈ys
 |[],_,h=>h
 |a::r,y,h=>by
  unfold eL at h
  split at h
  ·exact List.mem_cons_of_mem _ (wH r y h)
  ·rcases List.mem_cons.1 h with rfl|h
   ·simp
   ·exact List.mem_cons_of_mem _ (wH r y h)
theorem C9:∀(ys:List Int),(∀y∈ys,0≤y)→ys.Pairwise (·≤·)→(eL ys).Pairwise (·<·)
 |[],_,_=>List.Pairwise.nil
 |a::r,h0,hs=>by
  rw[List.pairwise_cons] at hs
  have ih:=C9 r (fun y hy=>h0 y (by simp[hy])) hs.2
  unfold eL
  split
  ·exact ih
  ·rename_i hn
   rw[List.pairwise_cons]
   refine⟨fun y hy=> ?_,ih⟩
   have hyr:=wH r y hy
   have hle:=hs.1 y hyr
   by_cases e:a=y
   ·subst e
    exact absurd (bP.2 ⟨a,hyr,dG a (h0 a (by simp))⟩) hn
   ·omega
theorem C2:∀(ys:List Int),(∀y∈ys,0≤y)→ys.Pairwise (·≤·)→∀y,y∈eL ys↔(y∈ys∧∀x∈ys,x=y∨aB y x=false)
 |[],_,_,y=>by simp[eL]
 |a::r,h0,hs,y=>by
  rw[List.pairwise_cons] at hs
  have ih:=C2 r (fun y hy=>h0 y (by simp[hy])) hs.2 y
  have ha:0≤a:=h0 a (by simp)
  have back:y∈r→a=y∨aB y a=false:=fun hy=>by
   cases hw:aB y a
   ·exact .inr rfl
   ·have:=gZ hw ha;have:=hs.1 y hy;exact .inl (by omega)
  unfold eL
  split
  ·rename_i hany
   rw[ih]
   constructor
   ·rintro⟨h1,h2⟩
    refine⟨List.mem_cons_of_mem _ h1,fun x hx=> ?_⟩
    rcases List.mem_cons.1 hx with rfl|hx
    ·exact back h1
    ·exact h2 x hx
   ·rintro⟨h1,h2⟩
    refine⟨?_,fun x hx=>h2 x (List.mem_cons_of_mem _ hx)⟩
    rcases List.mem_cons.1 h1 with rfl|h1
    ·obtain⟨x,hx,hw⟩:=bP.1 hany
     rcases h2 x (List.mem_cons_of_mem _ hx) with e|e
     ·rw[←e];exact hx
     ·rw[hw] at e;cases e
    ·exact h1
  ·rename_i hany
   rw[List.mem_cons,ih]
   constructor
   ·rintro(rfl|⟨h1,h2⟩)
    ·refine⟨by simp,fun x hx=> ?_⟩
     rcases List.mem_cons.1 hx with e|hx
     ·exact .inl e
     ·cases hw:aB y x
      ·exact .inr rfl
      ·exact absurd (bP.2 ⟨x,hx,hw⟩) hany
    ·refine⟨List.mem_cons_of_mem _ h1,fun x hx=> ?_⟩
     rcases List.mem_cons.1 hx with rfl|hx
     ·exact back h1
     ·exact h2 x hx
   ·rintro⟨h1,h2⟩
    rcases List.mem_cons.1 h1 with rfl|h1
    ·exact .inl rfl
    ·exact .inr ⟨h1,fun x hx=>h2 x (List.mem_cons_of_mem _ hx)⟩
theorem yB:∀(ys:List Int),(∀y∈ys,0≤y)→∀x∈ys,aF x (eL ys)=true
 |[],_,x,hx=>by simp at hx
 |a::r,h0,x,hx=>by
  have h0r:∀y∈r,0≤y:=fun y hy=>h0 y (by simp[hy])
  have ih:=yB r h0r
  unfold eL
  split
  ·rename_i hany
   rcases List.mem_cons.1 hx with rfl|hx
   ·obtain⟨z,hz,hw⟩:=bP.1 hany
    obtain⟨z2,hz2,hw2⟩:=bP.1 (ih z hz)
    exact bP.2 ⟨z2,hz2,cC (h0 x (by simp)) (h0r z hz) hw hw2⟩
   ·exact ih x hx
  ·rcases List.mem_cons.1 hx with rfl|hx
   ·exact bP.2 ⟨x,by simp,dG x (h0 x (by simp))⟩
   ·obtain⟨z2,hz2,hw2⟩:=bP.1 (ih x hx)
    exact bP.2 ⟨z2,List.mem_cons_of_mem _ hz2,hw2⟩
theorem lL(xs:List Int):(cR xs).Pairwise (·<·):=by
 unfold cR iO
 refine List.Pairwise.sublist List.filter_sublist ?_
 rw[List.pairwise_map]
 exact List.pairwise_lt_range.imp (fun h=>by omega)
theorem kF{xs:List Int}(hr:∀x∈xs,0≤x∧x<256)(y:Int):y∈cR xs↔(y∈xs∧∀x∈xs,x=y∨aB y x=false):=by
 unfold cR iO zR
 rw[List.mem_filter,List.mem_map]
 simp only[Bool.and_eq_true,decide_eq_true_eq,List.all_eq_true,Bool.or_eq_true,Bool.not_eq_true',List.mem_range]
 constructor
 ·exact fun h=>h.2
 ·intro h
  have:=hr y h.1
  exact⟨⟨y.toNat,by omega,by omega⟩,h⟩
theorem AF{xs ys:List Int}(hr:∀x∈xs,0≤x∧x<256)(hs:ys.Pairwise (·≤·))(hm:∀x,x∈ys↔x∈xs):eL ys=cR xs:=by
 have h0:∀y∈ys,0≤y:=fun y hy=>(hr y ((hm y).1 hy)).1
 refine qV (C9 ys h0 hs) (lL xs) fun y=> ?_
 rw[C2 ys h0 hs,kF hr]
 constructor
 ·exact fun h=>⟨(hm y).1 h.1,fun x hx=>h.2 x ((hm x).2 hx)⟩
 ·exact fun h=>⟨(hm y).2 h.1,fun x hx=>h.2 x ((hm x).1 hx)⟩
theorem P9{xs:List Int}(ha:xs.Pairwise (·<·))(hw:∀x∈xs,∀y∈xs,y=x∨aB x y=false):g7 xs=true:=by
 unfold g7
 apply decide_eq_true
 rw[List.pairwise_iff_getElem] at ha⊢
 intro i j hi hj hij
 have h1:=ha i j hi hj hij
 have h2:=hw _ (List.getElem_mem hi) _ (List.getElem_mem hj)
 have h3:=hw _ (List.getElem_mem hj) _ (List.getElem_mem hi)
 have e2:aB xs[i] xs[j]=false:=by rcases h2 with h|h;omega;exact h
 have e3:aB xs[j] xs[i]=false:=by rcases h3 with h|h;omega;exact h
 simp[nT,e2,e3,h1]
theorem AQ{t:Int}{xs:List Int}(h:aC t xs=true):cR xs=xs:=by
 have hr:=dD h
 have hp:g7 xs=true:=by unfold aC at h;rw[Bool.and_eq_true] at h;exact h.2
 have asc:xs.Pairwise (·<·):=by
  refine(of_decide_eq_true hp).imp ?_
  intro a b hab
  simp[nT] at hab
  exact hab.1.1
 refine qV (lL xs) asc fun y=> ?_
 rw[kF hr]
 refine⟨fun h=>h.1,fun hy=>⟨hy,fun x hx=> ?_⟩⟩
 obtain⟨i,hi,rfl⟩:=List.mem_iff_getElem.1 hy
 obtain⟨j,hj,rfl⟩:=List.mem_iff_getElem.1 hx
 rcases Nat.lt_trichotomy i j with h1|h1|h1
 ·exact .inr (pO hp h1 (List.getElem?_eq_getElem hi) (List.getElem?_eq_getElem hj)).2.1
 ·subst h1;exact .inl rfl
 ·exact .inr (pO hp h1 (List.getElem?_eq_getElem hj) (List.getElem?_eq_getElem hi)).2.2
end Go.Proofs.YtfhjcacfchkdpaaGreatDoor
namespace Go.Proofs
open Go.Shelf
def Tryz.lays137_ren:Go.Shelf.Ren:=⟨fun|137=>187|217=>130|266=>146|n=>n,fun|9=>9|5=>5|3=>3|n=>n,fun|n=>n⟩
theorem Tryz.lays137:Go.Proofs.Lays.n137 Tryz.prog Tryz.lays137_ren:={
 mixed:=by kernel_rfl
 f137:=Tryz.func187.trans (congrArg some (by kernel_rfl))
 f217:=Tryz.func130.trans (congrArg some (by kernel_rfl))
 f266:=Tryz.func146.trans (congrArg some (by kernel_rfl))
 t3:=Tryz.underlying3
 a3:=Tryz.isAgg3
 z3:=Tryz.sizeOf3
 v3:=Tryz.zeroValue3
 t5:=Tryz.underlying5
 a5:=Tryz.isAgg5
 z5:=Tryz.sizeOf5
 v5:=Tryz.zeroValue5
 t9:=Tryz.underlying9
 a9:=Tryz.isAgg9
 z9:=Tryz.sizeOf9
 v9:=Tryz.zeroValue9}
open Go.RowKit in
theorem Tryz.strings_IndexByte(s:ByteArray)(c:Int)(w:World):
  Calls Tryz.prog 187 #[.string s,.int .u8 c] w fun e w' =>e= .returned (.int .i64 (Lib.indexByte s.data.toList c.toNat.toUInt8))∧w' =w:=Any.strings_IndexByte Tryz.lays137 s c w
def Tryz.lays103_ren:Go.Shelf.Ren:=⟨fun|103=>86|210=>110|206=>134|n=>n,fun|9=>9|4=>4|24=>119|3=>3|n=>n,fun|n=>n⟩
theorem Tryz.lays103:Go.Proofs.Lays.n103 Tryz.prog Tryz.lays103_ren:={
 mixed:=by kernel_rfl
 f103:=Tryz.func86.trans (congrArg some (by kernel_rfl))
 f206:=Tryz.func134.trans (congrArg some (by kernel_rfl))
 f210:=Tryz.func110.trans (congrArg some (by kernel_rfl))
 t3:=Tryz.underlying3
 a3:=Tryz.isAgg3
 z3:=Tryz.sizeOf3
 v3:=Tryz.zeroValue3
 t4:=Tryz.underlying4
 a4:=Tryz.isAgg4
 z4:=Tryz.sizeOf4
 v4:=Tryz.zeroValue4
 t9:=Tryz.underlying9
 a9:=Tryz.isAgg9
 z9:=Tryz.sizeOf9
 v9:=Tryz.zeroValue9
 t24:=Tryz.underlying119
 a24:=Tryz.isAgg119
 z24:=Tryz.sizeOf119
 v24:=Tryz.zeroValue119}
open Go.RowKit in
theorem Tryz.strings_CutPrefix(s p:ByteArray)(w:World):
  Calls Tryz.prog 86 #[.string s,.string p] w fun e w' =>e= .returned (.tuple #[.string ⟨(Lib.trimPrefix s.data.toList p.data.toList).toArray⟩,.bool (Lib.hasPrefix s.data.toList p.data.toList)])∧w' =w:=Any.strings_CutPrefix Tryz.lays103 s p w
def Tryz.laysM171_ren:Go.Shelf.Ren:=⟨fun|171=>112|243=>135|246=>148|283=>163|284=>164|285=>165|286=>166|129=>179|317=>178|318=>180|319=>181|320=>182|337=>195|338=>196|n=>n,fun|3=>3|9=>9|2=>2|4=>4|171=>183|0=>0|53=>184|37=>22|5=>5|173=>187|212=>199|51=>164|20=>20|213=>200|46=>154|232=>211|233=>212|n=>n,fun|17=>1|18=>2|19=>3|n=>n⟩
theorem Tryz.laysM171:Go.Proofs.LaysM.n171 Tryz.prog Tryz.laysM171_ren:={
 mixed:=by kernel_rfl
 f129:=Tryz.func179.trans (congrArg some (by kernel_rfl))
 f171:=Tryz.func112.trans (congrArg some (by kernel_rfl))
 f243:=Tryz.func135.trans (congrArg some (by kernel_rfl))
 f246:=Tryz.func148.trans (congrArg some (by kernel_rfl))
 f283:=Tryz.func163.trans (congrArg some (by kernel_rfl))
 f284:=Tryz.func164.trans (congrArg some (by kernel_rfl))
 f285:=Tryz.func165.trans (congrArg some (by kernel_rfl))
 f286:=Tryz.func166.trans (congrArg some (by kernel_rfl))
 f317:=Tryz.func178.trans (congrArg some (by kernel_rfl))
 f318:=Tryz.func180.trans (congrArg some (by kernel_rfl))
 f319:=Tryz.func181.trans (congrArg some (by kernel_rfl))
 f320:=Tryz.func182.trans (congrArg some (by kernel_rfl))
 f337:=Tryz.func195.trans (congrArg some (by kernel_rfl))
 f338:=Tryz.func196.trans (congrArg some (by kernel_rfl))
 t0:=Tryz.underlying0
 a0:=Tryz.isAgg0
 z0:=Tryz.sizeOf0
 v0:=Tryz.zeroValue0
 t2:=Tryz.underlying2
 a2:=Tryz.isAgg2
 z2:=Tryz.sizeOf2
 v2:=Tryz.zeroValue2
 t3:=Tryz.underlying3
 a3:=Tryz.isAgg3
 z3:=Tryz.sizeOf3
 v3:=Tryz.zeroValue3
 t4:=Tryz.underlying4
 a4:=Tryz.isAgg4
 z4:=Tryz.sizeOf4
 v4:=Tryz.zeroValue4
 t5:=Tryz.underlying5
 a5:=Tryz.isAgg5
 z5:=Tryz.sizeOf5
 v5:=Tryz.zeroValue5
 t9:=Tryz.underlying9
 a9:=Tryz.isAgg9
 z9:=Tryz.sizeOf9
 v9:=Tryz.zeroValue9
 t20:=Tryz.underlying20
 a20:=Tryz.isAgg20
 z20:=Tryz.sizeOf20
 v20:=Tryz.zeroValue20
 t37:=Tryz.underlying22
 a37:=Tryz.isAgg22
 z37:=Tryz.sizeOf22
 v37:=Tryz.zeroValue22
 t46:=Tryz.underlying154
 a46:=Tryz.isAgg154
 z46:=Tryz.sizeOf154
 v46:=Tryz.zeroValue154
 t51:=Tryz.underlying164
 a51:=Tryz.isAgg164
 z51:=Tryz.sizeOf164
 v51:=Tryz.zeroValue164
 t53:=Tryz.underlying184
 a53:=Tryz.isAgg184
 z53:=Tryz.sizeOf184
 v53:=Tryz.zeroValue184
 t171:=Tryz.underlying183
 a171:=Tryz.isAgg183
 z171:=Tryz.sizeOf183
 v171:=Tryz.zeroValue183
 t173:=Tryz.underlying187
 a173:=Tryz.isAgg187
 z173:=Tryz.sizeOf187
 v173:=Tryz.zeroValue187
 t212:=Tryz.underlying199
 a212:=Tryz.isAgg199
 z212:=Tryz.sizeOf199
 v212:=Tryz.zeroValue199
 t213:=Tryz.underlying200
 a213:=Tryz.isAgg200
 z213:=Tryz.sizeOf200
 t232:=Tryz.underlying211
 a232:=Tryz.isAgg211
 z232:=Tryz.sizeOf211
 v232:=Tryz.zeroValue211
 t233:=Tryz.underlying212
 a233:=Tryz.isAgg212
 z233:=Tryz.sizeOf212
 v233:=Tryz.zeroValue212
 g17:=by kernel_rfl
 g18:=by kernel_rfl
 g19:=by kernel_rfl
 i0:=by kernel_rfl
 i2:=by kernel_rfl
 i3:=by kernel_rfl
 i4:=by kernel_rfl
 i5:=by kernel_rfl
 i9:=by kernel_rfl
 i20:=by kernel_rfl
 i37:=by kernel_rfl
 i46:=by kernel_rfl
 i51:=by kernel_rfl
 i53:=by kernel_rfl
 i171:=by kernel_rfl
 i173:=by kernel_rfl
 i212:=by kernel_rfl
 i232:=by kernel_rfl
 i233:=by kernel_rfl
 m17:=by kernel_rfl
 m18:=by kernel_rfl
 m19:=by kernel_rfl}
open Go.RowKit Go.Sort Go.Lib in
theorem Tryz.strconv_Itoa(n:Int)(h0: -9223372036854775808≤n)(h1:n≤9223372036854775807)(w:World)(htab:Lib.TabIs Tryz.prog w "internal/strconv.uint64pow10" .u64 Lib.pow10Tab):
  Calls Tryz.prog 112 #[.int .i64 n] w fun e w' =>e= .returned (.string ⟨(Lib.itoa n).toArray⟩)∧∃k os,w' =grow (w.drewN k) os:=Any.strconv_Itoa Tryz.laysM171 n h0 h1 w htab
def Tryz.lays219_ren:Go.Shelf.Ren:=⟨fun|219=>109|217=>130|225=>131|224=>132|267=>133|266=>146|314=>147|n=>n,fun|9=>9|3=>3|4=>4|5=>5|46=>154|146=>165|51=>164|n=>n,fun|1=>0|n=>n⟩
theorem Tryz.lays219:Go.Proofs.Lays.n219 Tryz.prog Tryz.lays219_ren:={
 mixed:=by kernel_rfl
 f217:=Tryz.func130.trans (congrArg some (by kernel_rfl))
 f219:=Tryz.func109.trans (congrArg some (by kernel_rfl))
 f224:=Tryz.func132.trans (congrArg some (by kernel_rfl))
 f225:=Tryz.func131.trans (congrArg some (by kernel_rfl))
 f266:=Tryz.func146.trans (congrArg some (by kernel_rfl))
 f267:=Tryz.func133.trans (congrArg some (by kernel_rfl))
 f314:=Tryz.func147.trans (congrArg some (by kernel_rfl))
 t3:=Tryz.underlying3
 a3:=Tryz.isAgg3
 z3:=Tryz.sizeOf3
 v3:=Tryz.zeroValue3
 t4:=Tryz.underlying4
 a4:=Tryz.isAgg4
 z4:=Tryz.sizeOf4
 v4:=Tryz.zeroValue4
 t5:=Tryz.underlying5
 a5:=Tryz.isAgg5
 z5:=Tryz.sizeOf5
 v5:=Tryz.zeroValue5
 t9:=Tryz.underlying9
 a9:=Tryz.isAgg9
 z9:=Tryz.sizeOf9
 v9:=Tryz.zeroValue9
 t46:=Tryz.underlying154
 a46:=Tryz.isAgg154
 z46:=Tryz.sizeOf154
 v46:=Tryz.zeroValue154
 t51:=Tryz.underlying164
 a51:=Tryz.isAgg164
 z51:=Tryz.sizeOf164
 v51:=Tryz.zeroValue164
 t146:=Tryz.underlying165
 a146:=Tryz.isAgg165
 z146:=Tryz.sizeOf165
 v146:=Tryz.zeroValue165
 g1:=by kernel_rfl}
open Go.RowKit Go.Lib in
theorem Tryz.stringslite_Index_one(s:ByteArray)(c:UInt8)(w:World):
  Calls Tryz.prog 109 #[.string s,.string ⟨#[c]⟩] w fun e w' =>e= .returned (.int .i64 (Lib.indexByte s.data.toList c))∧w' =w:=Any.stringslite_Index_one Tryz.lays219 s c w
def Tryz.lays189_ren:Go.Shelf.Ren:=⟨fun|189=>192|125=>204|257=>203|128=>216|129=>179|294=>208|295=>209|296=>210|297=>211|298=>212|299=>213|216=>177|300=>214|301=>215|328=>217|329=>218|330=>219|331=>220|332=>221|215=>194|343=>222|n=>n,fun|28=>122|3=>3|46=>154|0=>0|51=>164|53=>184|4=>4|183=>215|182=>214|131=>106|5=>5|9=>9|218=>220|222=>224|228=>226|229=>134|n=>n,fun|n=>n⟩
theorem Tryz.lays189:Go.Proofs.Lays.n189 Tryz.prog Tryz.lays189_ren:={
 mixed:=by kernel_rfl
 f125:=Tryz.func204.trans (congrArg some (by kernel_rfl))
 f128:=Tryz.func216.trans (congrArg some (by kernel_rfl))
 f129:=Tryz.func179.trans (congrArg some (by kernel_rfl))
 f189:=Tryz.func192.trans (congrArg some (by kernel_rfl))
 f215:=Tryz.func194.trans (congrArg some (by kernel_rfl))
 f216:=Tryz.func177.trans (congrArg some (by kernel_rfl))
 f257:=Tryz.func203.trans (congrArg some (by kernel_rfl))
 f294:=Tryz.func208.trans (congrArg some (by kernel_rfl))
 f295:=Tryz.func209.trans (congrArg some (by kernel_rfl))
 f296:=Tryz.func210.trans (congrArg some (by kernel_rfl))
 f297:=Tryz.func211.trans (congrArg some (by kernel_rfl))
 f298:=Tryz.func212.trans (congrArg some (by kernel_rfl))
 f299:=Tryz.func213.trans (congrArg some (by kernel_rfl))
 f300:=Tryz.func214.trans (congrArg some (by kernel_rfl))
 f301:=Tryz.func215.trans (congrArg some (by kernel_rfl))
 f328:=Tryz.func217.trans (congrArg some (by kernel_rfl))
 f329:=Tryz.func218.trans (congrArg some (by kernel_rfl))
 f330:=Tryz.func219.trans (congrArg some (by kernel_rfl))
 f331:=Tryz.func220.trans (congrArg some (by kernel_rfl))
 f332:=Tryz.func221.trans (congrArg some (by kernel_rfl))
 f343:=Tryz.func222.trans (congrArg some (by kernel_rfl))
 t0:=Tryz.underlying0
 a0:=Tryz.isAgg0
 z0:=Tryz.sizeOf0
 v0:=Tryz.zeroValue0
 t3:=Tryz.underlying3
 a3:=Tryz.isAgg3
 z3:=Tryz.sizeOf3
 v3:=Tryz.zeroValue3
 t4:=Tryz.underlying4
 a4:=Tryz.isAgg4
 z4:=Tryz.sizeOf4
 v4:=Tryz.zeroValue4
 t5:=Tryz.underlying5
 a5:=Tryz.isAgg5
 z5:=Tryz.sizeOf5
 v5:=Tryz.zeroValue5
 t9:=Tryz.underlying9
 a9:=Tryz.isAgg9
 z9:=Tryz.sizeOf9
 v9:=Tryz.zeroValue9
 t28:=Tryz.underlying122
 a28:=Tryz.isAgg122
 z28:=Tryz.sizeOf122
 v28:=Tryz.zeroValue122
 t46:=Tryz.underlying154
 a46:=Tryz.isAgg154
 z46:=Tryz.sizeOf154
 v46:=Tryz.zeroValue154
 t51:=Tryz.underlying164
 a51:=Tryz.isAgg164
 z51:=Tryz.sizeOf164
 v51:=Tryz.zeroValue164
 t53:=Tryz.underlying184
 a53:=Tryz.isAgg184
 z53:=Tryz.sizeOf184
 v53:=Tryz.zeroValue184
 t131:=Tryz.underlying106
 a131:=Tryz.isAgg106
 z131:=Tryz.sizeOf106
 v131:=Tryz.zeroValue106
 t182:=Tryz.underlying214
 a182:=Tryz.isAgg214
 z182:=Tryz.sizeOf214
 v182:=Tryz.zeroValue214
 t183:=Tryz.underlying215
 a183:=Tryz.isAgg215
 z183:=Tryz.sizeOf215
 v183:=Tryz.zeroValue215
 t218:=Tryz.underlying220
 a218:=Tryz.isAgg220
 z218:=Tryz.sizeOf220
 v218:=Tryz.zeroValue220
 t222:=Tryz.underlying224
 a222:=Tryz.isAgg224
 z222:=Tryz.sizeOf224
 v222:=Tryz.zeroValue224
 t228:=Tryz.underlying226
 a228:=Tryz.isAgg226
 z228:=Tryz.sizeOf226
 v228:=Tryz.zeroValue226
 t229:=Tryz.underlying134
 a229:=Tryz.isAgg134
 z229:=Tryz.sizeOf134
 v229:=Tryz.zeroValue134}
open Go.Sort Go.RowKit in
theorem Tryz.slices_Sort_int(blk off cap:Nat)(zs:List Int)(w:World)(hH:Holds (Value.int .i64) w blk off zs.toArray)(hblk:blk<w.heap.size)(hsz:zs.length<4611686018427387904):
  Calls Tryz.prog 192 #[.slice (some ⟨blk,off,none⟩) zs.length cap] w fun e w' =>
   e= .returned (.tuple #[])∧∃n os,w' =grow (putRow (Value.int .i64) (Sort.ahead w n) blk off (zs.mergeSort fun x y=>decide (x≤y)).toArray) os:=Any.slices_Sort_int Tryz.lays189 blk off cap zs w hH hblk hsz
def Tryz.lays110_ren:Go.Shelf.Ren:=⟨fun|110=>106|109=>129|n=>n,fun|31=>28|9=>9|4=>4|3=>3|0=>0|n=>n,fun|n=>n⟩
theorem Tryz.lays110:Go.Proofs.Lays.n110 Tryz.prog Tryz.lays110_ren:={
 mixed:=by kernel_rfl
 f109:=Tryz.func129.trans (congrArg some (by kernel_rfl))
 f110:=Tryz.func106.trans (congrArg some (by kernel_rfl))
 t0:=Tryz.underlying0
 a0:=Tryz.isAgg0
 z0:=Tryz.sizeOf0
 v0:=Tryz.zeroValue0
 t3:=Tryz.underlying3
 a3:=Tryz.isAgg3
 z3:=Tryz.sizeOf3
 v3:=Tryz.zeroValue3
 t4:=Tryz.underlying4
 a4:=Tryz.isAgg4
 z4:=Tryz.sizeOf4
 v4:=Tryz.zeroValue4
 t9:=Tryz.underlying9
 a9:=Tryz.isAgg9
 z9:=Tryz.sizeOf9
 v9:=Tryz.zeroValue9
 t31:=Tryz.underlying28
 a31:=Tryz.isAgg28
 z31:=Tryz.sizeOf28
 v31:=Tryz.zeroValue28}
open Go.Lib in
theorem Tryz.slices_Contains_string(b off n c:Nat)(zs:List ByteArray)(x:ByteArray)(w:World)(hz:n≤zs.length)(hbig:n≤9223372036854775807)(hc:∀j,j<zs.length→w.cell? ⟨b,off+j,none⟩=some (.string (zs.getD j ByteArray.empty))):
  Calls Tryz.prog 106 #[.slice (some ⟨b,off,none⟩) n c,.string x] w fun e w' =>e= .returned (.bool (Lib.containsS (zs.take n) x))∧w' =w:=Any.slices_Contains_string Tryz.lays110 b off n c zs x w hz hbig hc
open Go.Lib in
theorem Tryz.slices_Contains_string_empty(a:Option Addr)(c:Nat)(x:ByteArray)(w:World):
  Calls Tryz.prog 106 #[.slice a 0 c,.string x] w fun e w' =>e= .returned (.bool false)∧w' =w:=Any.slices_Contains_string_empty Tryz.lays110 a c x w
def Tryz.laysNm215_ren:Go.Shelf.Ren:=⟨fun|15=>191|n=>n,fun|22=>122|3=>3|4=>4|n=>n,fun|n=>n⟩
theorem Tryz.laysNm215:Go.Proofs.Lays2.n15 Tryz.prog Tryz.laysNm215_ren:={
 mixed:=by kernel_rfl
 f15:=Tryz.func191.trans (congrArg some (by kernel_rfl))
 t3:=Tryz.underlying3
 a3:=Tryz.isAgg3
 z3:=Tryz.sizeOf3
 v3:=Tryz.zeroValue3
 t4:=Tryz.underlying4
 a4:=Tryz.isAgg4
 z4:=Tryz.sizeOf4
 v4:=Tryz.zeroValue4
 t22:=Tryz.underlying122
 a22:=Tryz.isAgg122
 z22:=Tryz.sizeOf122
 v22:=Tryz.zeroValue122
 i3:=by kernel_rfl}
open Go.RowKit Go.Lib in
theorem Tryz.slices_Clone_int(b off n c:Nat)(zs:List Int)(w:World)(hz:n≤zs.length)(hbig:n*8≤140737488355328)(hc:∀j,j<zs.length→w.cell? ⟨b,off+j,none⟩=some (.int .i64 (zs.getD j 0))):
  Calls Tryz.prog 191 #[.slice (some ⟨b,off,none⟩) n c] w fun e w' =>∃v',e= .returned v'∧w'.ownsRow w.heap.size 3 1 v' n ((zs.take n).map (Value.int .i64))∧v'≠.slice none 0 0∧Below w.heap.size w w' :=Any.slices_Clone_int Tryz.laysNm215 b off n c zs w hz hbig hc
def Tryz.laysNm216_ren:Go.Shelf.Ren:=⟨fun|16=>121|n=>n,fun|24=>28|9=>9|4=>4|n=>n,fun|n=>n⟩
theorem Tryz.laysNm216:Go.Proofs.Lays2.n16 Tryz.prog Tryz.laysNm216_ren:={
 mixed:=by kernel_rfl
 f16:=Tryz.func121.trans (congrArg some (by kernel_rfl))
 t4:=Tryz.underlying4
 a4:=Tryz.isAgg4
 z4:=Tryz.sizeOf4
 v4:=Tryz.zeroValue4
 t9:=Tryz.underlying9
 a9:=Tryz.isAgg9
 z9:=Tryz.sizeOf9
 v9:=Tryz.zeroValue9
 t24:=Tryz.underlying28
 a24:=Tryz.isAgg28
 z24:=Tryz.sizeOf28
 v24:=Tryz.zeroValue28
 i9:=by kernel_rfl}
open Go.RowKit Go.Lib in
theorem Tryz.slices_Clone_string(b off n c:Nat)(zs:List ByteArray)(w:World)(hz:n≤zs.length)(hbig:n*16≤140737488355328)(hc:∀j,j<zs.length→w.cell? ⟨b,off+j,none⟩=some (.string (zs.getD j ByteArray.empty))):
  Calls Tryz.prog 121 #[.slice (some ⟨b,off,none⟩) n c] w fun e w' =>∃v',e= .returned v'∧w'.ownsRow w.heap.size 9 1 v' n ((zs.take n).map (Value.string))∧v'≠.slice none 0 0∧Below w.heap.size w w' :=Any.slices_Clone_string Tryz.laysNm216 b off n c zs w hz hbig hc
open Go.RowKit Go.Lib in
theorem Tryz.slices_Clone_string_nil(n c:Nat)(w:World):
  Calls Tryz.prog 121 #[.slice none n c] w fun e w' =>e= .returned (.slice none 0 0)∧w' =w:=Any.slices_Clone_string_nil Tryz.laysNm216 n c w
open Go.RowKit Go.Lib in
theorem Tryz.slices_Clone_string_zero(a:Addr)(c:Nat)(w:World):
  Calls Tryz.prog 121 #[.slice (some a) 0 c] w fun e w' =>∃v',e= .returned v'∧w'.ownsRow w.heap.size 9 1 v' 0 []∧v'≠.slice none 0 0∧Below w.heap.size w w' :=Any.slices_Clone_string_zero Tryz.laysNm216 a c w
end Go.Proofs
namespace Go.Proofs.YtfhjcacfchkdpaaGreatDoor
open Go.RowKit
def PQ(base:Nat)(A:Option Addr)(nn c:Nat)(xs:List Int)(w:World)(e:Ending)(w' :World):Prop:=
 e= .returned (.tuple #[])∧∃ys:List Int,ys.Pairwise (·≤·)∧(∀x,x∈ys↔x∈xs)∧ys.length=nn∧aS w' base (.slice A nn c) ys∧w.grownBy w' (Value.slice A nn c).ownBlock
theorem PV(xs:List Int):(xs.mergeSort fun x y=>decide (x≤y)).Pairwise (·≤·):=by
 have:=List.pairwise_mergeSort (le:=fun a b:Int=>decide (a≤b)) (fun a b c h1 h2=>by simp only[decide_eq_true_eq] at*;omega) (fun a b=>by simp only[Bool.or_eq_true,decide_eq_true_eq];omega) xs
 exact this.imp (fun h=>by simpa using h)
theorem XD(base:Nat)(A:Option Addr)(nn c:Nat)(xs:List Int)(w:World)(hn:nn=xs.length)(h1:1≤nn)(hl:nn≤1048576)(hO:aS w base (.slice A nn c) xs):
  Calls Tryz.prog 192 #[.slice A nn c] w (PQ base A nn c xs w):=by
 subst hn
 rcases hO.2 with⟨_,h0⟩|⟨g,cap,cur,hv,hb,hg,hnc,hcm,hcs,htake⟩
 ·omega
 ·simp only[Value.slice.injEq] at hv
  obtain⟨rfl,_,rfl⟩:=hv
  have ht:cur.toList.take xs.length=xs.map (Value.int .i64):=by rw[←htake,Nat.mul_one]
  refine(Tryz.slices_Sort_int g 0 c xs w (holds_of_block_i hg ht) (Array.getElem?_eq_some_iff.1 hg).1 (by omega)).mono ?_
  rintro e w' ⟨he,n,os,rfl⟩
  refine⟨he,_,PV xs,fun x=>List.mem_mergeSort,List.length_mergeSort xs,?_,grownBy_sorted_i _⟩
  have:=ownsRow_sorted_i (n:=n) (os:=os) (List.length_mergeSort (le:=fun x y=>decide (x≤y)) xs) hb hg hnc hcm hcs
  unfold aS
  rw[List.length_mergeSort]
  exact this
def M0(xs:List Int)(w:World)(e:Ending)(w' :World):Prop:=∃v,e= .returned v∧aS w' w.heap.size v xs∧Below w.heap.size w w'
theorem UY(A:Option Addr)(nn c:Nat)(xs:List Int)(w:World)(hn:nn=xs.length)(h1:1≤nn)(hl:nn≤1048576)(hA:cB .i64 w A xs):
  Calls Tryz.prog 191 #[.slice A nn c] w (M0 xs w):=by
 subst hn
 obtain⟨b,off,rfl,_,hc⟩:=hA h1
 refine(Tryz.slices_Clone_int b off xs.length c xs w (Nat.le_refl _) (by omega) hc).mono ?_
 rintro e w' ⟨v,he,ho,_,hb⟩
 rw[List.take_length] at ho
 exact⟨v,he,ho,hb⟩
theorem BH{ys acc:List Int}{k:Nat}{x:Int}(h:Hid (acc++eL (ys.drop k)=eL ys))(hx:Hid (ys[k]? =some x))(hw:aF x (ys.drop (k+1))=true):Hid (acc++eL (ys.drop (k+1))=eL ys):=by
 unfold Hid;rw[←h.out,p3 hx]
 conv=>rhs;unfold eL
 rw[if_pos hw]
theorem BE{ys acc:List Int}{k:Nat}{x:Int}(h:Hid (acc++eL (ys.drop k)=eL ys))(hx:Hid (ys[k]? =some x))(hw:aF x (ys.drop (k+1))=false):Hid ((acc++[x])++eL (ys.drop (k+1))=eL ys):=by
 unfold Hid;rw[←h.out,p3 hx]
 conv=>rhs;unfold eL
 rw[if_neg (by rw[hw];simp)];simp
theorem qE(A:Option Addr)(nn c:Nat)(xs:List Int)(w:World)(hn:nn=xs.length)(h1:1≤nn)(hl:nn≤1048576)(hr:∀x∈xs,0≤x∧x<256)(hA:cB .i64 w A xs):
  Calls Tryz.prog 174 #[.slice A nn c] w fun e w' =>∃v,e= .returned v∧aS w' w.heap.size v (cR xs)∧Below w.heap.size w w' :=by
 subst hn
 have HC:=zH (UY A xs.length c xs w rfl h1 hl hA)
 have HR:=zH hr
 clear hr hA
 go_enter Tryz.func174,Tryz.ntmps174
 go_wp2_with fail
 refine HC.out.mono ?_
 rintro e w1 ⟨v,rfl,ho,hb⟩
 obtain⟨A1,c1,rfl,hc1,hm1,hn1,ha1⟩:=ho.form
 have hc63:c1≤9223372036854775807:=by unfold maxLen at hm1;omega
 have HO1:=zH ho
 have HB1:=zH hb
 have HA1:=zH ha1
 clear ho hb hm1 hn1 ha1 HC
 go_wp2_with fail
 refine(XD w.heap.size A1 _ c1 xs _ rfl h1 hl HO1.out).mono ?_
 rintro e w2 ⟨rfl,ys,hs,hm,hylen,ho,hg⟩
 have HG:=zH (AF HR.out hs hm)
 have HYR:Hid (∀y∈ys,0≤y∧y<256):=fun y hy=>HR.out y ((hm y).1 hy)
 have HB2:Hid (Below w.heap.size w w2):=R5 HB1.out hg (fun ad h=>(HA1.out ad h).1)
 obtain⟨A2,c2,hv2,_,_,hn2,_⟩:=ho.form
 rw[←hylen] at hv2 hc1 h1 hl
 simp only[Value.slice.injEq] at hv2
 obtain⟨rfl,hx1,rfl⟩:=hv2
 have HN2:=zH hn2
 rw[←hylen]
 clear ho hg hs hm hx1 hn2 hylen HO1 HA1 HR
 go_wp2_with fail
 go_loopw [4,13] (fun v i wr=>∃(k:Nat) (acc:List Int),k≤ys.length∧i= .int .i64 k∧Hid (acc.length≤k)∧Hid (acc++eL (ys.drop k)=eL ys)∧aS wr w2.heap.size v acc∧Below w2.heap.size w2 wr) (fun _ i _=>ys.length-(Go.RowKit.intOf i).toNat)
 case atStart=>exact⟨0,[],Nat.zero_le _,rfl,Nat.zero_le _,by unfold Hid;simp,aS.nil _ _,Below.refl _ _⟩
 case round=>
  obtain⟨k,acc,hk,rfl,hacc,hgr,hown,hbel⟩:=hrel
  have HOW:=zH hown
  have HB:=zH hbel
  clear hown hbel
  by_cases hlt:k<ys.length
  ·obtain⟨b,off,x,rfl,hcell,hx,_⟩:=(HN2.out.below HB.out).elem hlt
   obtain⟨he1,he2⟩:=HYR.out x (eG hx)
   have HD:Hid (∀y∈ys.drop (k+1),0≤y∧y<256):=fun y hy=>HYR.out y (List.mem_of_mem_drop hy)
   have hlen:Hid (ys.length-(k+1)=(ys.drop (k+1)).length):=by unfold Hid;simp
   have hal:=hacc.out
   by_cases hck:c1=k+1
   ·subst hck
    go_wp2_with fail
    refine(nJ _ _ _ _ (ys.drop (k+1)) _ (by rw[←hlen.out];try omega) he1 he2 HD.out (by omega) (by exact cB.none_ (by rw[←hlen.out];omega))).mono ?_
    rintro e w' ⟨rfl,rfl⟩
    rcases hw:aF x (ys.drop (k+1)) with _|_
    ·have HT:=BE hgr hx hw
     have hww:Hid (aF x (ys.drop (k+1))=false):=hw
     go_wp2_with (at_builtin;refine kB (W:=wr) rfl _ _ rfl w2.heap.size u4 acc rfl HOW.out x rfl (by omega) HB.out.size ?_;intro v' w' hown' hgrow)
     have hb' :=gP HB.out HB.out.size HOW.out (Nat.le_refl _) hgrow
     go_roundw
     case rel=>exact⟨k+1,acc++[x],by omega,by go_num,by unfold Hid;simp;omega,HT,hown',hb'⟩
     case measure=>simp[Go.RowKit.intOf];omega
    ·have HT:=BH hgr hx hw
     go_wp2_with fail
     go_roundw
     case rel=>exact⟨k+1,acc,by omega,by go_num,by unfold Hid;omega,HT,HOW.out,HB.out⟩
     case measure=>simp[Go.RowKit.intOf];omega
   ·go_wp2_with fail
    refine(nJ _ _ _ _ (ys.drop (k+1)) _ (by rw[←hlen.out];try omega) he1 he2 HD.out (by omega) (by exact(HN2.out.below HB.out).from_ (k+1))).mono ?_
    rintro e w' ⟨rfl,rfl⟩
    rcases hw:aF x (ys.drop (k+1)) with _|_
    ·have HT:=BE hgr hx hw
     have hww:Hid (aF x (ys.drop (k+1))=false):=hw
     go_wp2_with (at_builtin;refine kB (W:=wr) rfl _ _ rfl w2.heap.size u4 acc rfl HOW.out x rfl (by omega) HB.out.size ?_;intro v' w' hown' hgrow)
     have hb' :=gP HB.out HB.out.size HOW.out (Nat.le_refl _) hgrow
     go_roundw
     case rel=>exact⟨k+1,acc++[x],by omega,by go_num,by unfold Hid;simp;omega,HT,hown',hb'⟩
     case measure=>simp[Go.RowKit.intOf];omega
    ·have HT:=BH hgr hx hw
     go_wp2_with fail
     go_roundw
     case rel=>exact⟨k+1,acc,by omega,by go_num,by unfold Hid;omega,HT,HOW.out,HB.out⟩
     case measure=>simp[Go.RowKit.intOf];omega
  ·obtain rfl:k=ys.length:=by omega
   have HF:Hid (acc=cR xs):=by
    have:=hgr.out
    rw[List.drop_length] at this
    unfold Hid;rw[←HG.out,←this];simp[eL]
   clear hgr
   go_wp2
   go_ret
   exact⟨_,rfl,by rw[←HF.out];exact HOW.out.base HB2.out.size,aA HB2.out HB.out⟩
end Go.Proofs.YtfhjcacfchkdpaaGreatDoor
