/-
  What the proofs of this seat's statements share (Read, Draw, Drs, Drt, TlkM, SamT, TlkN, TlkJ).
-/
import Derived.BigQuiet
import Derived.Deep.QuietTactic
import Derived.OwnWalk
import Derived.Deep.RegionWith
import Derived.IntWalk
import Derived.Test.YtfhjcacfchkdpaaGreatDoorU24
set_option maxRecDepth 100000
set_option maxHeartbeats 32000000
namespace Go.Proofs.YtfhjcacfchkdpaaGreatDoor
open Go.RowKit
theorem Rd.more{w:World}{g u v:Nat}(h:Rd w g u)(hv:u≤v):Rd w g v:=by
 obtain⟨A,c,zs,p,h1,h2,h3,h4,h5,h6⟩:=h
 exact⟨A,c,zs,p,h1,h2,h3,by omega,h5,h6⟩
def GW(g u:Nat)(n:Int)(w:World)(e:Ending)(w' :World):Prop:=∃k:Int,e= .returned (.int .i64 k)∧0≤k∧(1≤n→k<n)∧Rd w' g (u+1)∧w.grownBy w' (some g)
theorem T0{w:World}{g u p c:Nat}{A:Option Addr}{zs:List Int}(h1:w.heap[g]? =some (.cells #[.slice A zs.length c,.int .i64 p] 118 (0,0)))(h2:cB .u8 w A zs)(h3:zs.length≤2000)(h4:p≤u)
  (h5:∀z∈zs,0≤z∧z≤255) (h6:∀ad,0<zs.length→A=some ad→ad.block<g) (n:Nat):
  Rd ((w.setCell ⟨g,1,none⟩ (.int .i64 ((p:Int)+1))).drewN n) g (u+1)∧w.grownBy ((w.setCell ⟨g,1,none⟩ (.int .i64 ((p:Int)+1))).drewN n) (some g):=by
 have hg:w.grownBy (w.setCell ⟨g,1,none⟩ (.int .i64 ((p:Int)+1))) (some g):=gE (World.grownBy.refl w _) 1 _
 refine⟨⟨A,c,zs,p+1,?_,(fun hp=>(h2.grown hg (fun ad ha e=>by have:=h6 ad hp ha;injection e;omega):cB .u8 (w.setCell ⟨g,1,none⟩ (.int .i64 ((p:Int)+1))) A zs) hp),h3,by omega,h5,h6⟩,eM hg n⟩
 show(w.setCell ⟨g,1,none⟩ (.int .i64 ((p:Int)+1))).heap[g]? =_
 simp[World.setCell,Array.getElem?_modify,h1]
theorem AR(a b:Int)(ha:0≤a)(ha2:a<1073741824)(hb:0≤b)(hb2:b<1073741824):0≤bits .xor .i64 a b:=by
 obtain⟨a,rfl⟩:=Int.eq_ofNat_of_zero_le ha
 obtain⟨b,rfl⟩:=Int.eq_ofNat_of_zero_le hb
 have hx:a ^^^ b<2^30:=Nat.xor_lt_two_pow (by omega) (by omega)
 show 0≤IntKind.i64.wrap ((BitVec.ofInt 64 (a:Int) ^^^ BitVec.ofInt 64 (b:Int)).toNat:Int)
 rw[BitVec.toNat_xor,BitVec.ofInt_natCast,BitVec.ofInt_natCast,BitVec.toNat_ofNat,BitVec.toNat_ofNat,Nat.mod_eq_of_lt (by omega),Nat.mod_eq_of_lt (by omega),IntKind.wrap_i64]
 omega
theorem cE(g u:Nat)(n:Int)(w:World)(hn:n≤1048576)(hn0: -1048576≤n)(hu:u≤1048576)(hR:Rd w g u):
  Calls Tryz.prog 41 #[.pointer (some ⟨g,0,none⟩),.int .i64 n] w fun e w' =>GW g u n w e w' :=by
 obtain⟨A,c,zs,p,h1,h2,h3,h4,h5,h6⟩:=hR
 have hc0:w.cell? ⟨g,0,none⟩=some (.slice A zs.length c):=by simp[World.cell?,h1]
 have hc1:w.cell? ⟨g,1,none⟩=some (.int .i64 p):=by simp[World.cell?,h1]
 have hf1:w.frozen? ⟨g,1,none⟩=false:=by simp[World.frozen?,h1]
 have hf1' :(w.setCell ⟨g,1,none⟩ (.int .i64 ((p:Int)+1))).cell? ⟨g,1,none⟩=some (.int .i64 ((p:Int)+1)):=by simp[World.cell?,World.setCell,Array.getElem?_modify,h1]
 have HF:=zH (T0 h1 h2 h3 h4 h5 h6)
 have HN:=zH h2
 have H5:=zH h5
 have H6:=zH h6
 clear h1 h2 h5 h6
 by_cases hn1:n<1
 ·go_enter Tryz.func41,Tryz.ntmps41
  go_wp2
  go_ret
  exact⟨0,rfl,by omega,by omega,HF.out 0⟩
 ·by_cases hz:zs.length=0
  ·have hz' :((zs.length:Int)==0)=true:=by simp[hz]
   have HZ:=zH hz
   clear hz
   go_enter Tryz.func41,Tryz.ntmps41
   go_wp2
   go_ret
   exact⟨0,rfl,by omega,by omega,HF.out 0⟩
  ·have hz' :((zs.length:Int)==0)=false:=by simp;intro e;subst e;exact hz rfl
   by_cases hlt:p<zs.length
   ·obtain⟨b,off,z,rfl,hcell,hx,_⟩:=HN.out.elem hlt
    obtain⟨hz1,hz2⟩:=H5.out z (eG hx)
    have hne:b≠g:=Nat.ne_of_lt (H6.out _ (by omega) rfl)
    go_enter Tryz.func41,Tryz.ntmps41
    go_wp2
    go_ret
    exact⟨_,rfl,Int.emod_nonneg _ (by omega),fun _=>Int.emod_lt_of_pos _ (by omega),HF.out 0⟩
   ·obtain⟨r1,hr1⟩:∃r,r=p%zs.length:=⟨_,rfl⟩
    obtain⟨r2,hr2⟩:∃r,r=(p*7+3)%zs.length:=⟨_,rfl⟩
    obtain⟨d,hd⟩:∃d,d=p / zs.length:=⟨_,rfl⟩
    have hb1:r1<zs.length:=by rw[hr1];exact Nat.mod_lt _ (by omega)
    have hb2:r2<zs.length:=by rw[hr2];exact Nat.mod_lt _ (by omega)
    have hbd:d≤p:=by rw[hd];exact Nat.div_le_self _ _
    have t1:(p:Int).tmod (zs.length:Int)=(r1:Int):=by rw[hr1];exact Int.ofNat_tmod _ _ |>.symm
    have t2:((p:Int)*7+3).tmod (zs.length:Int)=(r2:Int):=by rw[hr2];exact(Int.ofNat_tmod (p*7+3) _).symm
    have t3:(p:Int).tdiv (zs.length:Int)=(d:Int):=by rw[hd];exact Int.ofNat_tdiv _ _ |>.symm
    clear hr1 hr2 hd
    obtain⟨b,off,z,rfl,hcell,hx,_⟩:=HN.out.elem (i:=r1) hb1
    obtain⟨b',off',y,hAA,hcell2,hy,_⟩:=HN.out.elem (i:=r2) hb2
    cases hAA
    obtain⟨hz1,hz2⟩:=H5.out z (eG hx)
    obtain⟨hy1,hy2⟩:=H5.out y (eG hy)
    have hne:b≠g:=Nat.ne_of_lt (H6.out _ (by omega) rfl)
    have hL:(0:Int)<(zs.length:Int):=by omega
    have hb1' :(r1:Int)<(zs.length:Int):=by omega
    have hb2' :(r2:Int)<(zs.length:Int):=by omega
    have e1:IntKind.i64.wrap (z*131)=z*131:=IntWalk.i64_in _ (by omega)
    have e2:IntKind.i64.wrap (y*1117)=y*1117:=IntWalk.i64_in _ (by omega)
    have e3:IntKind.i64.wrap (z*131+y*1117)=z*131+y*1117:=IntWalk.i64_in _ (by omega)
    have e4:IntKind.i64.wrap ((p:Int)*29)=(p:Int)*29:=IntWalk.i64_in _ (by omega)
    have e5:IntKind.i64.wrap (z*131+y*1117+(p:Int)*29)=z*131+y*1117+(p:Int)*29:=IntWalk.i64_in _ (by omega)
    have e6:IntKind.i64.wrap (d:Int)=(d:Int):=IntWalk.i64_in _ (by omega)
    have e7:IntKind.i64.wrap ((d:Int)*53)=(d:Int)*53:=IntWalk.i64_in _ (by omega)
    have e8:IntKind.i64.wrap (z*131+y*1117+(p:Int)*29+(d:Int)*53)=z*131+y*1117+(p:Int)*29+(d:Int)*53:=IntWalk.i64_in _ (by omega)
    have m1:IntKind.i64.wrap ((p:Int)*7)=(p:Int)*7:=IntWalk.i64_in _ (by omega)
    have m2:IntKind.i64.wrap ((p:Int)*7+3)=(p:Int)*7+3:=IntWalk.i64_in _ (by omega)
    have e9:IntKind.i64.wrap z=z:=IntWalk.i64_in _ (by omega)
    have e10:IntKind.i64.wrap y=y:=IntWalk.i64_in _ (by omega)
    go_enter Tryz.func41,Tryz.ntmps41
    go_wp2
    go_quiet (fail)
    clear t1 t2 t3 e1 e2 e3 e4 e5 e6 e7 e8 m1 m2 e9 e10
    have hd0:(0:Int)≤(d:Int):=by omega
    have hx0:=AR (z*131+y*1117+(p:Int)*29+(d:Int)*53) ((z*131+y*1117+(p:Int)*29+(d:Int)*53) / 64) (by omega) (by omega) (by omega) (by omega)
    go_wp2
    go_ret
    exact⟨_,rfl,Int.emod_nonneg _ (by omega),fun _=>Int.emod_lt_of_pos _ (by omega),HF.out _⟩
theorem RP{w w' :World}{g:Nat}(xs:List Int){t:TypeId}(hg:(w.alloc (.cells (xs.map (Value.int .i64)).toArray t)).grownBy w' (some g))(hne:g<w.heap.size){k:Int}(h0:0≤k)(hk:k<xs.length):
  ∃x:Int,x∈xs∧w'.cell? ⟨w.heap.size,k.toNat,none⟩=some (.int .i64 x):=by
 have hb:w'.heap[w.heap.size]? =(w.alloc (.cells (xs.map (Value.int .i64)).toArray t)).heap[w.heap.size]? :=hg.block w.heap.size (by simp) (fun e=>by injection e;omega)
 have hi:k.toNat<xs.length:=by omega
 refine⟨xs[k.toNat],List.getElem_mem hi,?_⟩
 have h2:(w.alloc (.cells (xs.map (Value.int .i64)).toArray t)).heap[w.heap.size]? =some (.cells (xs.map (Value.int .i64)).toArray t (0,0)):=heap_alloc_new w _
 rw[h2] at hb
 rw[cell_of_row w' w.heap.size k.toNat _ t (0,0) hb]
 simp[hi]
def PD(g u:Nat)(w:World)(e:Ending)(w' :World):Prop:=∃b:Bool,e= .returned (.bool b)∧Rd w' g u∧w.grownBy w' (some g)
theorem tB(g u:Nat)(n:Int)(w:World)(hn:n≤1048576)(hn0:0≤n)(hu:u≤1048576)(hR:Rd w g u):
  Calls Tryz.prog 47 #[.pointer (some ⟨g,0,none⟩),.int .i64 n] w (PD g (u+1) w):=by
 have HR:=zH hR
 clear hR
 by_cases h0:0<n
 ·go_enter Tryz.func47,Tryz.ntmps47
  go_wp2_with fail
  refine(cE g u n _ hn (by omega) hu HR.out).mono ?_
  rintro e w1 ⟨k,rfl,hk0,hk1,hr,hg⟩
  have HP:=zH (And.intro hr hg)
  clear hr hg hk1
  go_wp2_with fail
  go_ret
  exact⟨_,rfl,HP.out⟩
 ·have HP:Hid (Rd w g (u+1)∧w.grownBy w (some g)):=⟨HR.out.more (by omega),World.grownBy.refl w _⟩
  go_enter Tryz.func47,Tryz.ntmps47
  go_wp2_with fail
  go_ret
  exact⟨_,rfl,HP.out⟩
def QO(w:World)(e:Ending)(w' :World):Prop:=e= .returned (.pointer (some ⟨w.heap.size,0,none⟩))∧Rd w' w.heap.size 0∧Below w.heap.size w w'
theorem I2{w:World}{A:Option Addr}{c:Nat}{zs:List Int}(h:cB .u8 w A zs)(hl:zs.length≤2000)(hr:∀z∈zs,0≤z∧z≤255):
  Rd (w.alloc (.cells #[.slice A zs.length c,.int .i64 0] 118)) w.heap.size 0:=by
 refine⟨A,c,zs,0,heap_alloc_new w _,h.alloc _,hl,Nat.le_refl _,hr,fun ad hp ha=> ?_⟩
 obtain⟨b,off,hA,hb,_⟩:=h hp
 rw[hA] at ha
 cases ha
 exact hb
theorem QU(A:Option Addr)(nn c:Nat)(zs:List Int)(w:World)(hn:nn=zs.length)(hc:nn≤c)(hm:c≤maxLen)(hr:∀z∈zs,0≤z∧z≤255)(hA:cB .u8 w A zs):
  Calls Tryz.prog 38 #[.slice A nn c] w (QO w):=by
 subst hn
 have hm' :c≤9223372036854775807:=by unfold maxLen at hm;omega
 have HB:Hid (∀o,Below w.heap.size w (w.alloc o)):=fun o=>(Below.refl _ _).alloc (Nat.le_refl _) o
 by_cases hl:2000<zs.length
 ·have hd:decide ((2000:Int)<(zs.length:Int))=true:=by simp;omega
  have hlen:(zs.take 2000).length=2000:=by rw[List.length_take];omega
  have HR:Hid (Rd (w.alloc (.cells #[.slice A 2000 c,.int .i64 0] 118)) w.heap.size 0):=by
   have:=I2 (c:=c) (hA.take 2000) (by omega) (fun z hz=>hr z (List.mem_of_mem_take hz))
   rw[hlen] at this
   exact this
  clear hA hr hlen hm
  go_enter Tryz.func38,Tryz.ntmps38
  go_wp2
  go_ret
  exact⟨rfl,HR.out,HB.out _⟩
 ·have hd:decide ((2000:Int)<(zs.length:Int))=false:=by simp;omega
  have HR:=zH (I2 (c:=c) hA (by omega) hr)
  clear hA hr hm
  go_enter Tryz.func38,Tryz.ntmps38
  go_wp2
  go_ret
  exact⟨rfl,HR.out,HB.out _⟩
theorem pR{w w' :World}{g:Nat}(xs:List ByteArray){t:TypeId}(hg:(w.alloc (.cells (xs.map Value.string).toArray t)).grownBy w' (some g))(hne:g<w.heap.size){k:Int}(h0:0≤k)(hk:k<xs.length):
  ∃x:ByteArray,x∈xs∧w'.cell? ⟨w.heap.size,k.toNat,none⟩=some (.string x):=by
 have hb:w'.heap[w.heap.size]? =(w.alloc (.cells (xs.map Value.string).toArray t)).heap[w.heap.size]? :=hg.block w.heap.size (by simp) (fun e=>by injection e;omega)
 have hi:k.toNat<xs.length:=by omega
 refine⟨xs[k.toNat],List.getElem_mem hi,?_⟩
 have h2:(w.alloc (.cells (xs.map Value.string).toArray t)).heap[w.heap.size]? =some (.cells (xs.map Value.string).toArray t (0,0)):=heap_alloc_new w _
 rw[h2] at hb
 rw[cell_of_row w' w.heap.size k.toNat _ t (0,0) hb]
 simp[hi]
def xC(hi:Nat)(g u:Nat)(w:World)(e:Ending)(w' :World):Prop:=∃s:ByteArray,e= .returned (.string s)∧1≤s.size∧s.size≤hi∧Rd w' g u∧w.grownBy w' (some g)
def j8:List ByteArray:=[⟨#[97]⟩,⟨#[98]⟩,⟨#[99]⟩,⟨#[97]⟩,⟨#[48]⟩,⟨#[49]⟩]
theorem l0{x:ByteArray}(h:x∈j8):x.size=1:=by
 simp only[j8,List.mem_cons,List.not_mem_nil,or_false] at h
 rcases h with rfl|rfl|rfl|rfl|rfl|rfl<;>rfl
def V5:List ByteArray:=[⟨#[]⟩,⟨#[99]⟩,⟨#[40]⟩,⟨#[38]⟩,⟨#[33]⟩]
theorem a8(b:UInt8):(ByteArray.mk #[b]).size=1:=rfl
def VK(deep:Int)(g u:Nat)(t:Int)(w:World):Prop:=Calls Tryz.prog 96 #[.pointer (some ⟨g,0,none⟩),.int .i64 t,.int .i64 deep] w (xC 1 g (u+3) w)
theorem RS(g u:Nat)(t:Int)(w:World)(hu:u≤1000000)(hR:Rd w g u):VK 0 g u t w:=by
 have HR:=zH hR
 have hlt:=hR.lt
 obtain⟨m,hm⟩:∃m,max (min t 3) 1=m:=⟨_,rfl⟩
 have hm1:1≤m:=by omega
 have hm3:m≤3:=by omega
 unfold VK
 clear hR
 go_enter Tryz.func96,Tryz.ntmps96
 go_wp2_with fail
 refine(cE g u _ _ (by omega) (by omega) (by omega) (HR.out.alloc _)).mono ?_
 rintro e w1 ⟨k,rfl,hk0,hk1,hr,hg⟩
 have hk8:=hk1 (by omega)
 have hsz:w.heap.size<w1.heap.size:=by have:=hg.size;simp at this;omega
 obtain⟨q,hq⟩:∃q,k / 7=q:=⟨_,rfl⟩
 have hq0:0≤q:=by omega
 have hq1:q≤1:=by omega
 have HR1:=zH hr
 have HG1:=zH hg
 clear hr hg hk1
 go_wp2_with fail
 refine(cE g (u+1) _ _ (by omega) (by omega) (by omega) HR1.out).mono ?_
 rintro e w2 ⟨k2,rfl,hk20,hk21,hr,hg⟩
 have hk26:=hk21 (by omega)
 obtain⟨x,hx,hcell⟩:=pR j8 (HG1.out.trans hg) hlt hk20 (by simp[j8];omega)
 have HS:=zH (l0 hx)
 have hk6:k2<6:=by omega
 have HP:Hid (Rd w2 g (u+3)∧w.grownBy w2 (some g)):=⟨hr.more (by omega),(bB (World.grownBy.refl w _) _).trans (HG1.out.trans hg)⟩
 clear hr hg hx hk21
 go_wp2_with fail
 go_ret
 exact⟨x,rfl,by rw[HS.out];omega,by rw[HS.out];omega,HP.out⟩
def CN(d:Int)(hi us b:Nat):Prop:=∀(g u:Nat) (t:Int) (w:World),u≤b→Rd w g u→Calls Tryz.prog 96 #[.pointer (some ⟨g,0,none⟩),.int .i64 t,.int .i64 d] w (xC hi g (u+us) w)
theorem jA:CN 0 1 3 1000000:=fun g u t w hu hR=>RS g u t w (by omega) hR
theorem gY:CN 1 5 11 950000:=by
 intro g u t w hu hR
 have HR:=zH hR
 have hlt:=hR.lt
 clear hR
 obtain⟨m,hm⟩:∃m,max (min t 3) 1=m:=⟨_,rfl⟩
 have hm1:1≤m:=by omega
 have hm3:m≤3:=by omega
 go_enter Tryz.func96,Tryz.ntmps96
 go_wp2_with fail
 refine(cE g u _ _ (by omega) (by omega) (by omega) HR.out).mono ?_
 rintro e w0 ⟨k0,rfl,hk00,hk01,hr,hg⟩
 have hk04:=hk01 (by omega)
 have hlt0:g<w0.heap.size:=hr.lt
 have HR0:=zH hr
 have HG0:=zH hg
 clear hr hg hk01
 by_cases hz:k0=0
 ·subst hz
  go_wp2_with fail
  refine(cE g (u+1) _ _ (by omega) (by omega) (by omega) (HR0.out.alloc _)).mono ?_
  rintro e w1 ⟨k,rfl,hk0,hk1,hr,hg⟩
  have hk8:=hk1 (by omega)
  have hsz:w0.heap.size<w1.heap.size:=by have:=hg.size;simp at this;omega
  obtain⟨q,hq⟩:∃q,k / 7=q:=⟨_,rfl⟩
  have hq0:0≤q:=by omega
  have hq1:q≤1:=by omega
  have HR1:=zH hr
  have HG1:=zH hg
  clear hr hg hk1
  go_wp2_with fail
  refine(cE g (u+2) _ _ (by omega) (by omega) (by omega) HR1.out).mono ?_
  rintro e w2 ⟨k2,rfl,hk20,hk21,hr,hg⟩
  have hk26:=hk21 (by omega)
  obtain⟨x,hx,hcell⟩:=pR j8 (HG1.out.trans hg) hlt0 hk20 (by simp[j8];omega)
  have HS:=zH (l0 hx)
  have hk6:k2<6:=by omega
  have HP:Hid (Rd w2 g (u+11)∧w.grownBy w2 (some g)):=⟨hr.more (by omega),(bB HG0.out _).trans (HG1.out.trans hg)⟩
  clear hr hg hx hk21
  go_wp2_with fail
  go_ret
  exact⟨x,rfl,by rw[HS.out];omega,by rw[HS.out];omega,HP.out⟩
 ·have hzb:(k0==0)=false:=by rw[beq_eq_false_iff_ne];exact hz
  clear hz
  go_wp2_with fail
  refine(cE g (u+1) _ _ (by omega) (by omega) (by omega) HR0.out).mono ?_
  rintro e w1 ⟨k,rfl,hk0,hk1,hr,hg⟩
  have hk6:=hk1 (by omega)
  have HR1:=zH hr
  have HG1:=zH (HG0.out.trans hg)
  clear hr hg hk1
  have h6:k=0∨k=1∨k=2∨k=3∨k=4∨k=5:=by omega
  clear hk0 hk6
  rcases h6 with rfl|rfl|rfl|rfl|rfl|rfl
  ·go_wp2_with fail
   refine(jA g (u+2) t _ (by omega) HR1.out).mono ?_
   rintro e w2 ⟨s1,rfl,hs1,hs2,hr,hg⟩
   have HP:Hid (Rd w2 g (u+11)∧w.grownBy w2 (some g)):=⟨hr.more (by omega),HG1.out.trans hg⟩
   clear hr hg
   go_wp2_with fail
   go_ret
   exact⟨_,rfl,by simp only[ByteArray.size_append,a8];omega,by simp only[ByteArray.size_append,a8];omega,HP.out⟩
  ·go_wp2_with fail
   refine(jA g (u+2) t _ (by omega) HR1.out).mono ?_
   rintro e w2 ⟨s1,rfl,hs1,hs2,hr,hg⟩
   have HP:Hid (Rd w2 g (u+11)∧w.grownBy w2 (some g)):=⟨hr.more (by omega),HG1.out.trans hg⟩
   clear hr hg
   go_wp2_with fail
   go_ret
   exact⟨_,rfl,by simp only[ByteArray.size_append,a8];omega,by simp only[ByteArray.size_append,a8];omega,HP.out⟩
  ·go_wp2_with fail
   refine(jA g (u+2) t _ (by omega) HR1.out).mono ?_
   rintro e w2 ⟨s1,rfl,hs1,hs2,hr,hg⟩
   have HR2:=zH hr
   have HG2:=zH (HG1.out.trans hg)
   clear hr hg
   go_wp2_with fail
   refine(jA g (u+2+3) t _ (by omega) HR2.out).mono ?_
   rintro e w3 ⟨s2,rfl,hs3,hs4,hr,hg⟩
   have HP:Hid (Rd w3 g (u+11)∧w.grownBy w3 (some g)):=⟨hr.more (by omega),HG2.out.trans hg⟩
   clear hr hg
   go_wp2_with fail
   go_ret
   exact⟨_,rfl,by simp only[ByteArray.size_append,a8];omega,by simp only[ByteArray.size_append,a8];omega,HP.out⟩
  ·go_wp2_with fail
   refine(jA g (u+2) t _ (by omega) HR1.out).mono ?_
   rintro e w2 ⟨s1,rfl,hs1,hs2,hr,hg⟩
   have HR2:=zH hr
   have HG2:=zH (HG1.out.trans hg)
   clear hr hg
   go_wp2_with fail
   refine(jA g (u+2+3) t _ (by omega) HR2.out).mono ?_
   rintro e w3 ⟨s2,rfl,hs3,hs4,hr,hg⟩
   have HP:Hid (Rd w3 g (u+11)∧w.grownBy w3 (some g)):=⟨hr.more (by omega),HG2.out.trans hg⟩
   clear hr hg
   go_wp2_with fail
   go_ret
   exact⟨_,rfl,by simp only[ByteArray.size_append,a8];omega,by simp only[ByteArray.size_append,a8];omega,HP.out⟩
  ·go_wp2_with fail
   refine(jA g (u+2) t _ (by omega) HR1.out).mono ?_
   rintro e w2 ⟨s1,rfl,hs1,hs2,hr,hg⟩
   have HR2:=zH hr
   have HG2:=zH (HG1.out.trans hg)
   clear hr hg
   go_wp2_with fail
   refine(jA g (u+2+3) t _ (by omega) HR2.out).mono ?_
   rintro e w3 ⟨s2,rfl,hs3,hs4,hr,hg⟩
   have HP:Hid (Rd w3 g (u+11)∧w.grownBy w3 (some g)):=⟨hr.more (by omega),HG2.out.trans hg⟩
   clear hr hg
   go_wp2_with fail
   go_ret
   exact⟨_,rfl,by simp only[ByteArray.size_append,a8];omega,by simp only[ByteArray.size_append,a8];omega,HP.out⟩
  ·go_wp2_with fail
   refine(jA g (u+2) t _ (by omega) HR1.out).mono ?_
   rintro e w2 ⟨s1,rfl,hs1,hs2,hr,hg⟩
   have HR2:=zH hr
   have HG2:=zH (HG1.out.trans hg)
   clear hr hg
   go_wp2_with fail
   refine(jA g (u+2+3) t _ (by omega) HR2.out).mono ?_
   rintro e w3 ⟨s2,rfl,hs3,hs4,hr,hg⟩
   have HP:Hid (Rd w3 g (u+11)∧w.grownBy w3 (some g)):=⟨hr.more (by omega),HG2.out.trans hg⟩
   clear hr hg
   go_wp2_with fail
   go_ret
   exact⟨_,rfl,by simp only[ByteArray.size_append,a8];omega,by simp only[ByteArray.size_append,a8];omega,HP.out⟩
theorem NM:CN 2 13 27 900000:=by
 intro g u t w hu hR
 have HR:=zH hR
 have hlt:=hR.lt
 clear hR
 obtain⟨m,hm⟩:∃m,max (min t 3) 1=m:=⟨_,rfl⟩
 have hm1:1≤m:=by omega
 have hm3:m≤3:=by omega
 go_enter Tryz.func96,Tryz.ntmps96
 go_wp2_with fail
 refine(cE g u _ _ (by omega) (by omega) (by omega) HR.out).mono ?_
 rintro e w0 ⟨k0,rfl,hk00,hk01,hr,hg⟩
 have hk04:=hk01 (by omega)
 have hlt0:g<w0.heap.size:=hr.lt
 have HR0:=zH hr
 have HG0:=zH hg
 clear hr hg hk01
 by_cases hz:k0=0
 ·subst hz
  go_wp2_with fail
  refine(cE g (u+1) _ _ (by omega) (by omega) (by omega) (HR0.out.alloc _)).mono ?_
  rintro e w1 ⟨k,rfl,hk0,hk1,hr,hg⟩
  have hk8:=hk1 (by omega)
  have hsz:w0.heap.size<w1.heap.size:=by have:=hg.size;simp at this;omega
  obtain⟨q,hq⟩:∃q,k / 7=q:=⟨_,rfl⟩
  have hq0:0≤q:=by omega
  have hq1:q≤1:=by omega
  have HR1:=zH hr
  have HG1:=zH hg
  clear hr hg hk1
  go_wp2_with fail
  refine(cE g (u+2) _ _ (by omega) (by omega) (by omega) HR1.out).mono ?_
  rintro e w2 ⟨k2,rfl,hk20,hk21,hr,hg⟩
  have hk26:=hk21 (by omega)
  obtain⟨x,hx,hcell⟩:=pR j8 (HG1.out.trans hg) hlt0 hk20 (by simp[j8];omega)
  have HS:=zH (l0 hx)
  have hk6:k2<6:=by omega
  have HP:Hid (Rd w2 g (u+27)∧w.grownBy w2 (some g)):=⟨hr.more (by omega),(bB HG0.out _).trans (HG1.out.trans hg)⟩
  clear hr hg hx hk21
  go_wp2_with fail
  go_ret
  exact⟨x,rfl,by rw[HS.out];omega,by rw[HS.out];omega,HP.out⟩
 ·have hzb:(k0==0)=false:=by rw[beq_eq_false_iff_ne];exact hz
  clear hz
  go_wp2_with fail
  refine(cE g (u+1) _ _ (by omega) (by omega) (by omega) HR0.out).mono ?_
  rintro e w1 ⟨k,rfl,hk0,hk1,hr,hg⟩
  have hk6:=hk1 (by omega)
  have HR1:=zH hr
  have HG1:=zH (HG0.out.trans hg)
  clear hr hg hk1
  have h6:k=0∨k=1∨k=2∨k=3∨k=4∨k=5:=by omega
  clear hk0 hk6
  rcases h6 with rfl|rfl|rfl|rfl|rfl|rfl
  ·go_wp2_with fail
   refine(gY g (u+2) t _ (by omega) HR1.out).mono ?_
   rintro e w2 ⟨s1,rfl,hs1,hs2,hr,hg⟩
   have HP:Hid (Rd w2 g (u+27)∧w.grownBy w2 (some g)):=⟨hr.more (by omega),HG1.out.trans hg⟩
   clear hr hg
   go_wp2_with fail
   go_ret
   exact⟨_,rfl,by simp only[ByteArray.size_append,a8];omega,by simp only[ByteArray.size_append,a8];omega,HP.out⟩
  ·go_wp2_with fail
   refine(gY g (u+2) t _ (by omega) HR1.out).mono ?_
   rintro e w2 ⟨s1,rfl,hs1,hs2,hr,hg⟩
   have HP:Hid (Rd w2 g (u+27)∧w.grownBy w2 (some g)):=⟨hr.more (by omega),HG1.out.trans hg⟩
   clear hr hg
   go_wp2_with fail
   go_ret
   exact⟨_,rfl,by simp only[ByteArray.size_append,a8];omega,by simp only[ByteArray.size_append,a8];omega,HP.out⟩
  ·go_wp2_with fail
   refine(gY g (u+2) t _ (by omega) HR1.out).mono ?_
   rintro e w2 ⟨s1,rfl,hs1,hs2,hr,hg⟩
   have HR2:=zH hr
   have HG2:=zH (HG1.out.trans hg)
   clear hr hg
   go_wp2_with fail
   refine(gY g (u+2+11) t _ (by omega) HR2.out).mono ?_
   rintro e w3 ⟨s2,rfl,hs3,hs4,hr,hg⟩
   have HP:Hid (Rd w3 g (u+27)∧w.grownBy w3 (some g)):=⟨hr.more (by omega),HG2.out.trans hg⟩
   clear hr hg
   go_wp2_with fail
   go_ret
   exact⟨_,rfl,by simp only[ByteArray.size_append,a8];omega,by simp only[ByteArray.size_append,a8];omega,HP.out⟩
  ·go_wp2_with fail
   refine(gY g (u+2) t _ (by omega) HR1.out).mono ?_
   rintro e w2 ⟨s1,rfl,hs1,hs2,hr,hg⟩
   have HR2:=zH hr
   have HG2:=zH (HG1.out.trans hg)
   clear hr hg
   go_wp2_with fail
   refine(gY g (u+2+11) t _ (by omega) HR2.out).mono ?_
   rintro e w3 ⟨s2,rfl,hs3,hs4,hr,hg⟩
   have HP:Hid (Rd w3 g (u+27)∧w.grownBy w3 (some g)):=⟨hr.more (by omega),HG2.out.trans hg⟩
   clear hr hg
   go_wp2_with fail
   go_ret
   exact⟨_,rfl,by simp only[ByteArray.size_append,a8];omega,by simp only[ByteArray.size_append,a8];omega,HP.out⟩
  ·go_wp2_with fail
   refine(gY g (u+2) t _ (by omega) HR1.out).mono ?_
   rintro e w2 ⟨s1,rfl,hs1,hs2,hr,hg⟩
   have HR2:=zH hr
   have HG2:=zH (HG1.out.trans hg)
   clear hr hg
   go_wp2_with fail
   refine(gY g (u+2+11) t _ (by omega) HR2.out).mono ?_
   rintro e w3 ⟨s2,rfl,hs3,hs4,hr,hg⟩
   have HP:Hid (Rd w3 g (u+27)∧w.grownBy w3 (some g)):=⟨hr.more (by omega),HG2.out.trans hg⟩
   clear hr hg
   go_wp2_with fail
   go_ret
   exact⟨_,rfl,by simp only[ByteArray.size_append,a8];omega,by simp only[ByteArray.size_append,a8];omega,HP.out⟩
  ·go_wp2_with fail
   refine(gY g (u+2) t _ (by omega) HR1.out).mono ?_
   rintro e w2 ⟨s1,rfl,hs1,hs2,hr,hg⟩
   have HR2:=zH hr
   have HG2:=zH (HG1.out.trans hg)
   clear hr hg
   go_wp2_with fail
   refine(gY g (u+2+11) t _ (by omega) HR2.out).mono ?_
   rintro e w3 ⟨s2,rfl,hs3,hs4,hr,hg⟩
   have HP:Hid (Rd w3 g (u+27)∧w.grownBy w3 (some g)):=⟨hr.more (by omega),HG2.out.trans hg⟩
   clear hr hg
   go_wp2_with fail
   go_ret
   exact⟨_,rfl,by simp only[ByteArray.size_append,a8];omega,by simp only[ByteArray.size_append,a8];omega,HP.out⟩
theorem YN{k:Int}(h0:0≤k)(hk:k<5):∃x:ByteArray,x∈V5∧∀h,[Value.string ⟨#[]⟩,.string ⟨#[99]⟩,.string ⟨#[40]⟩,.string ⟨#[38]⟩,.string ⟨#[33]⟩][k.toNat]'h= .string x:=by
 have h5:k=0∨k=1∨k=2∨k=3∨k=4:=by omega
 rcases h5 with rfl|rfl|rfl|rfl|rfl
 ·exact⟨_,List.mem_cons_self,fun _=>rfl⟩
 ·exact⟨_,List.mem_cons_of_mem _ List.mem_cons_self,fun _=>rfl⟩
 ·exact⟨_,List.mem_cons_of_mem _ (List.mem_cons_of_mem _ List.mem_cons_self),fun _=>rfl⟩
 ·exact⟨_,List.mem_cons_of_mem _ (List.mem_cons_of_mem _ (List.mem_cons_of_mem _ List.mem_cons_self)),fun _=>rfl⟩
 ·exact⟨_,List.mem_cons_of_mem _ (List.mem_cons_of_mem _ (List.mem_cons_of_mem _ (List.mem_cons_of_mem _ List.mem_cons_self))),fun _=>rfl⟩
theorem YH{w w' :World}{g:Nat}(xs:List ByteArray){t:TypeId}(hg:(w.alloc (.cells (xs.map Value.string).toArray t)).drew.grownBy w' (some g))(hne:g<w.heap.size){k:Int}(h0:0≤k)(hk:k<xs.length):
  ∃x:ByteArray,x∈xs∧w'.cell? ⟨w.heap.size,k.toNat,none⟩=some (.string x):=by
 have hg' :(w.alloc (.cells (xs.map Value.string).toArray t)).grownBy w' (some g):=(eM (World.grownBy.refl _ _) 1).trans hg
 exact pR xs hg' hne h0 hk
theorem XZ{w w4 w' :World}{g u u' :Nat}{o:Obj}(h:w.grownBy w4 (some g))(hr:Rd w' g u)(hg:(w4.alloc o).drew.grownBy w' (some g))(hu:u≤u'):Rd w' g u'∧w.grownBy w' (some g):=
 ⟨hr.more hu,(eM (bB h _) 1).trans hg⟩
theorem XI{w w4 w' :World}{g u u' :Nat}(h:w.grownBy w4 (some g))(hr:Rd w' g u)(hg:w4.drew.grownBy w' (some g))(hu:u≤u')(o:Obj):Rd (w'.alloc o) g u'∧w.grownBy (w'.alloc o) (some g):=
 ⟨(hr.more hu).alloc o,bB ((eM h 1).trans hg) o⟩
def FB(t:Int):aL:=if 1≤t∧t≤3 then⟨t,⟨aJ t,[]⟩,[]⟩ else lW
theorem U8{t:Int}(h1:1≤t)(h3:t≤3):dP (FB t)=true∧(FB t).now.known=aJ t∧(FB t).now.op=[]:=by
 unfold FB
 rw[if_pos ⟨h1,h3⟩]
 refine⟨?_,rfl,rfl⟩
 have hp:=(o3 h1 h3).2
 have hn:(2:Nat)≤2^aP t:=by
  have:t=1∨t=2∨t=3:=by omega
  rcases this with rfl|rfl|rfl<;>decide
 refine(cT aH).2 ⟨(cS aH).2 ⟨cW h1 h3 (bH t).1 (Int.le_refl _),?_,Nat.zero_le _,fun s hs=>(by cases hs),List.nodup_nil⟩,Nat.zero_le _,fun x hx=>(by cases hx)⟩
 show aJ t≠0
 omega
theorem KR(A B:Option Addr)(nn mm c d:Nat)(xs ys:List ByteArray)(w:World)(hn:nn=xs.length)(hm:mm=ys.length)(hl:nn≤1048576)(hl2:mm≤1048576)(hA:a7 w A xs)(hB:a7 w B ys):
  Calls Tryz.prog 27 #[.slice A nn c,.slice B mm d] w fun e w' =>e= .returned (.bool (decide (xs=ys)))∧∃n,w' =w.drewN n:=by
 subst hn hm
 have HA:=zH hA
 have HB:=zH hB
 clear hA hB
 by_cases hlen:xs.length=ys.length
 ·have hd:((xs.length:Int) != (ys.length:Int))=false:=by simp;omega
  have HL:=zH hlen
  have hle1:xs.length≤ys.length:=by omega
  have hle2:ys.length≤xs.length:=by omega
  clear hlen
  go_enter Tryz.func27,Tryz.ntmps27
  go_wp2
  go_loopw [5] (fun i wr=>∃k:Nat,k≤xs.length∧i= .int .i64 k∧Hid (xs.take k=ys.take k)∧∃n,wr=w.drewN n) (fun i _=>xs.length-(Go.RowKit.intOf i).toNat)
  case atStart=>exact⟨0,Nat.zero_le _,rfl,rfl,0,rfl⟩
  case round=>
   obtain⟨k,hk,rfl,hsofar,n,rfl⟩:=hrel
   by_cases hlt:k<xs.length
   ·have hlt2:k<ys.length:=by omega
    obtain⟨b,off,x,rfl,hcell,hx,_⟩:=HA.out.elem hlt
    obtain⟨b',off',y,rfl,hcell',hy,_⟩:=HB.out.elem hlt2
    by_cases hxy:x=y
    ·have HXY:=zH hxy
     subst hxy
     go_wp2
     go_quiet (fail)
     go_wp2
     exact⟨⟨k+1,by omega,by go_num,by unfold Hid;rw[nN hx,nN hy,hsofar.out],_,rfl⟩,by simp[Go.RowKit.intOf];omega⟩
    ·have hxy' :(x.toList==y.toList)=false:=lT hxy
     have HXY:=zH hxy
     go_wp2
     go_quiet (fail)
     go_wp2
     go_ret
     exact⟨aM (by symm;apply decide_eq_false;intro e;subst e;have:=hx.out.symm.trans hy.out;cases this;exact HXY.out rfl),_,World.drewN_drewN _ _ _⟩
   ·obtain rfl:k=xs.length:=by omega
    have HE:Hid (xs=ys):=by
     have:=hsofar.out
     rw[List.take_length,HL.out,List.take_length] at this
     exact this
    clear hsofar
    go_wp2
    go_ret
    exact⟨aM (by rw[decide_eq_true HE.out]),_,rfl⟩
 ·have hd:((xs.length:Int) != (ys.length:Int))=true:=by simp;omega
  have HL:=zH hlen
  clear hlen
  go_enter Tryz.func27,Tryz.ntmps27
  go_wp2
  go_ret
  exact⟨aM (by symm;apply decide_eq_false;intro e;exact HL.out (by rw[e])),0,rfl⟩
theorem BJ(k1 k2:Int)(A B:Option Addr)(n m c d:Nat)(xs ys:List ByteArray)(w:World)(hn:n=xs.length)(hm:m=ys.length)(hl:n≤1048576)(hl2:m≤1048576)(hA:a7 w A xs)(hB:a7 w B ys):
  Calls Tryz.prog 57 #[.agg #[.int .i64 k1,.slice A n c],.agg #[.int .i64 k2,.slice B m d]] w fun e w' =>(∃b,e= .returned (.bool b)∧(b=true↔k1=k2∧xs=ys))∧Below w.heap.size w w' :=by
 have hb:Below w.heap.size w ((w.alloc (.cells #[.int .i64 k1,.slice A n c] 30)).alloc (.cells #[.int .i64 k2,.slice B m d] 30)):=((Below.refl _ _).alloc (Nat.le_refl _) _).alloc (by rw[World.size_alloc];omega) _
 have HB0:=zH hb
 have HC:=zH (KR A B n m c d xs ys _ hn hm hl hl2 (hA.below hb) (hB.below hb))
 clear hb hn hm hl hl2 hA hB
 by_cases hk:k1=k2
 ·have hd:(k1==k2)=true:=by simp[hk]
  have HK:=zH hk
  clear hk
  go_enter Tryz.func57,Tryz.ntmps57
  go_wp2_with fail
  refine HC.out.mono ?_
  rintro e w' ⟨rfl,q,rfl⟩
  obtain⟨b,hbb⟩:∃b,decide (xs=ys)=b:=⟨_,rfl⟩
  have HBB:=zH hbb
  rw[hbb]
  clear hbb
  go_wp2_with fail
  go_ret
  exact⟨⟨b,rfl,by rw[←HBB.out,decide_eq_true_eq];exact⟨fun h=>⟨HK.out,h⟩,fun h=>h.2⟩⟩,aE HB0.out _⟩
 ·have hd:(k1==k2)=false:=by simp[hk]
  have HK:=zH hk
  clear hk
  go_enter Tryz.func57,Tryz.ntmps57
  go_wp2_with fail
  go_ret
  exact⟨⟨false,rfl,(fun h=>nomatch h),(fun h=>absurd h.1 HK.out)⟩,HB0.out⟩
def tM(w:World)(t k u q:Int)(o p o2 p2:Value):World:=(w.alloc (.cells #[.int .i64 t,.int .i64 k,o,p] 33)).alloc (.cells #[.int .i64 u,.int .i64 q,o2,p2] 33)
theorem P2(w:World)(t k u q:Int)(o p o2 p2:Value):Hid (aD (tM w t k u q o p o2 p2) w.heap.size 33 [.int .i64 t,.int .i64 k,o,p])∧Hid (aD (tM w t k u q o p o2 p2) (w.heap.size+1) 33 [.int .i64 u,.int .i64 q,o2,p2])∧Hid (Below w.heap.size w (tM w t k u q o p o2 p2)):=by
 have:=aD.new (w.alloc (.cells #[.int .i64 t,.int .i64 k,o,p] 33)) 33 [.int .i64 u,.int .i64 q,o2,p2]
 rw[World.size_alloc] at this
 exact⟨(aD.new w _ [.int .i64 t,.int .i64 k,o,p]).alloc _,this,((Below.refl _ _).alloc (Nat.le_refl _) _).alloc (by rw[World.size_alloc];omega) _⟩
theorem XX(T U:aL)(A B A2 B2:Option Addr)(n c m d n2 c2 m2 d2:Nat)(w:World)(hT:bN w T A n c B m d)(hU:bN w U A2 n2 c2 B2 m2 d2)(hs:cD T)(hs2:cD U):
  Calls Tryz.prog 18 #[.agg #[.int .i64 T.things,.int .i64 T.now.known,.slice A n c,.slice B m d],.agg #[.int .i64 U.things,.int .i64 U.now.known,.slice A2 n2 c2,.slice B2 m2 d2]] w fun e w' =>(∃b,e= .returned (.bool b)∧(T=U→b=true))∧Below w.heap.size w w' :=by
 obtain rfl:=hT.pn
 obtain rfl:=hU.pn
 obtain⟨HX,HY,HB⟩:=P2 w T.things T.now.known U.things U.now.known (.slice A n c) (.slice B T.past.length d) (.slice A2 n2 c2) (.slice B2 U.past.length d2)
 have HT:=zH (hT.below HB.out)
 have HU:=zH (hU.below HB.out)
 have HS:=zH hs
 have HS2:=zH hs2
 have HST:Hid (∀W:World,Below (tM w T.things T.now.known U.things U.now.known (.slice A n c) (.slice B T.past.length d) (.slice A2 n2 c2) (.slice B2 U.past.length d2)).heap.size (tM w T.things T.now.known U.things U.now.known (.slice A n c) (.slice B T.past.length d) (.slice A2 n2 c2) (.slice B2 U.past.length d2)) W→Calls Tryz.prog 57 #[.agg #[.int .i64 T.now.known,.slice A n c],.agg #[.int .i64 U.now.known,.slice A2 n2 c2]] W fun e w' =>(∃b,e= .returned (.bool b)∧(b=true↔T.now.known=U.now.known∧T.now.op=U.now.op))∧Below W.heap.size W w'):=fun W hb=>
  BJ _ _ _ _ _ _ _ _ _ _ W hT.hn hU.hn (by rw[hT.hn];exact hs.op) (by rw[hU.hn];exact hs2.op) ((hT.below HB.out).below hb).hA ((hU.below HB.out).below hb).hA
 have HI:Hid (∀b:Bool,(b=true↔T.now.known=U.now.known∧T.now.op=U.now.op)→T=U→b=true):=fun b h e=>h.2 ⟨by rw[e],by rw[e]⟩
 have HN1:Hid (T.things≠U.things→T≠U):=fun h e=>h (by rw[e])
 have HN2:Hid (T.past.length≠U.past.length→T≠U):=fun h e=>h (by rw[e])
 have HN3:Hid (∀(k:Nat) (x y:St ByteArray),T.past[k]? =some x→U.past[k]? =some y→¬(x.known=y.known∧x.op=y.op)→T≠U):=fun k x y h1 h2 h3 e=>by
  subst e
  rw[h1] at h2
  cases h2
  exact h3 ⟨rfl,rfl⟩
 obtain⟨t,ht⟩:∃t,T.things=t:=⟨_,rfl⟩
 obtain⟨q,hq⟩:∃q,T.now.known=q:=⟨_,rfl⟩
 obtain⟨u,hu⟩:∃u,U.things=u:=⟨_,rfl⟩
 obtain⟨r,hr⟩:∃r,U.now.known=r:=⟨_,rfl⟩
 obtain⟨W0,hW0⟩:∃W,tM w t q u r (.slice A n c) (.slice B T.past.length d) (.slice A2 n2 c2) (.slice B2 U.past.length d2)=W:=⟨_,rfl⟩
 rw[ht,hq,hu,hr,hW0] at HX HY HB HT HU HST
 rw[ht,hq,hu,hr]
 rw[ht,hu] at HN1
 rw[hq,hr] at HI
 clear hT hU hs hs2 ht hq hu hr
 have hc0:=HX.out.cell (i:=0) (v:= .int .i64 t) rfl
 have hc1:=HX.out.cell (i:=1) (v:= .int .i64 q) rfl
 have hc2:=HX.out.cell (i:=2) (v:= .slice A n c) rfl
 have hc3:=HX.out.cell (i:=3) (v:= .slice B T.past.length d) rfl
 have hd0:=HY.out.cell (i:=0) (v:= .int .i64 u) rfl
 have hd1:=HY.out.cell (i:=1) (v:= .int .i64 r) rfl
 have hd2:=HY.out.cell (i:=2) (v:= .slice A2 n2 c2) rfl
 have hd3:=HY.out.cell (i:=3) (v:= .slice B2 U.past.length d2) rfl
 unfold tM at hW0
 by_cases htu:t=u
 ·have hne:(t != u)=false:=by simp[htu]
  clear htu
  by_cases hl:T.past.length=U.past.length
  ·have hnl:((T.past.length:Int) != (U.past.length:Int))=false:=by simp;omega
   have hle1:T.past.length≤U.past.length:=by omega
   have hle0:T.past.length≤1048576:=HS.out.past
   have hle2:U.past.length≤T.past.length:=by omega
   clear hl HN1 HN2
   go_enter Tryz.func18,Tryz.ntmps18
   go_upto_region 1 with fail
   try rw[hW0]
   clear hW0
   go_wp2_with fail
   clear hne hnl
   go_loopw [5] (fun i wr=>∃k:Nat,k≤T.past.length∧i= .int .i64 k∧Hid (Below W0.heap.size W0 wr)) (fun i _=>T.past.length-(Go.RowKit.intOf i).toNat)
   case atStart=>exact⟨0,Nat.zero_le _,rfl,Below.refl _ _⟩
   case round=>
    obtain⟨k,hk,rfl,HBW⟩:=hrel
    have HXR:=zH (HX.out.below HBW.out)
    have HYR:=zH (HY.out.below HBW.out)
    clear hc0 hc1 hc2 hc3 hd0 hd1 hd2 hd3
    have hc1:=HXR.out.cell (i:=1) (v:= .int .i64 q) rfl
    have hc2:=HXR.out.cell (i:=2) (v:= .slice A n c) rfl
    have hc3:=HXR.out.cell (i:=3) (v:= .slice B T.past.length d) rfl
    have hd1:=HYR.out.cell (i:=1) (v:= .int .i64 r) rfl
    have hd2:=HYR.out.cell (i:=2) (v:= .slice A2 n2 c2) rfl
    have hd3:=HYR.out.cell (i:=3) (v:= .slice B2 U.past.length d2) rfl
    by_cases hlt:k<T.past.length
    ·have hlt2:k<U.past.length:=by omega
     obtain⟨b,off,Ai,ci,x,rfl,he0,he1,_,_,hx,hAi,hb1⟩:=((HT.out.below HBW.out).hB).elem hlt
     obtain⟨b',off',Aj,cj,y,rfl,he2,he3,_,_,hy,hAj,hb2⟩:=((HU.out.below HBW.out).hB).elem hlt2
     have HKA:Hid (wr.cell? ⟨w.heap.size,3,none⟩=some (.slice (some ⟨b,off,none⟩) T.past.length d)∧wr.cell? ⟨w.heap.size+1,3,none⟩=some (.slice (some ⟨b',off',none⟩) U.past.length d2)∧wr.cell? ⟨b,off+k*2,none⟩=some (.int .i64 x.known)∧wr.cell? ⟨b,off+k*2+1,none⟩=some (.slice Ai x.op.length ci)∧wr.cell? ⟨b',off' +k*2,none⟩=some (.int .i64 y.known)∧wr.cell? ⟨b',off' +k*2+1,none⟩=some (.slice Aj y.op.length cj)):=⟨hc3,hd3,he0,he1,he2,he3⟩
     have HK:Hid (∀W,Below wr.heap.size wr W→W.cell? ⟨w.heap.size,3,none⟩=some (.slice (some ⟨b,off,none⟩) T.past.length d)∧W.cell? ⟨w.heap.size+1,3,none⟩=some (.slice (some ⟨b',off',none⟩) U.past.length d2)∧W.cell? ⟨b,off+k*2,none⟩=some (.int .i64 x.known)∧W.cell? ⟨b,off+k*2+1,none⟩=some (.slice Ai x.op.length ci)∧W.cell? ⟨b',off' +k*2,none⟩=some (.int .i64 y.known)∧W.cell? ⟨b',off' +k*2+1,none⟩=some (.slice Aj y.op.length cj)):=fun W hb=>⟨(HXR.out.below hb).cell rfl,(HYR.out.below hb).cell rfl,(Below.cell hb (p:=⟨b,off+k*2,none⟩) hb1.out).trans he0,(Below.cell hb (p:=⟨b,off+k*2+1,none⟩) hb1.out).trans he1,(Below.cell hb (p:=⟨b',off' +k*2,none⟩) hb2.out).trans he2,(Below.cell hb (p:=⟨b',off' +k*2+1,none⟩) hb2.out).trans he3⟩
     have HC:Hid (∀W:World,a7 W Ai x.op→a7 W Aj y.op→Calls Tryz.prog 57 #[.agg #[.int .i64 x.known,.slice Ai x.op.length ci],.agg #[.int .i64 y.known,.slice Aj y.op.length cj]] W fun e w' =>(∃b,e= .returned (.bool b)∧(b=true↔x.known=y.known∧x.op=y.op))∧Below W.heap.size W w'):=fun W h1 h2=>BJ _ _ _ _ _ _ _ _ _ _ W rfl rfl (HS.out.ops x (List.mem_of_getElem? hx.out)).1 (HS2.out.ops y (List.mem_of_getElem? hy.out)).1 h1 h2
     clear hc1 hc2 hc3 hd1 hd2 hd3 he0 he1 he2 he3
     obtain⟨hc3,hd3,he0,he1,he2,he3⟩:=HKA.out
     go_wp2_with fail
     go_region_held3 (fun w' =>w'.cell? ⟨w.heap.size,3,none⟩=some (.slice (some ⟨b,off,none⟩) T.past.length d)∧w'.cell? ⟨w.heap.size+1,3,none⟩=some (.slice (some ⟨b',off',none⟩) U.past.length d2)∧w'.cell? ⟨b,off+k*2,none⟩=some (.int .i64 x.known)∧w'.cell? ⟨b,off+k*2+1,none⟩=some (.slice Ai x.op.length ci)∧w'.cell? ⟨b',off' +k*2,none⟩=some (.int .i64 y.known)∧w'.cell? ⟨b',off' +k*2+1,none⟩=some (.slice Aj y.op.length cj))
      (first|go_keep|exact HKA.out|exact HKEEP.out)
      (first|(go_at_call 57;refine(HC.out _ (hAi.out.drewN 1) (hAj.out.drewN 1)).mono ?_;rintro e w1 ⟨⟨z,rfl,hz⟩,hb⟩;have HKEEP:=zH (HK.out _ (aA (aE (Below.refl _ _) 1) hb));have HB2:=zH (aA (aE HBW.out 1) hb);have HZ:=zH hz;clear hb hz))
     all_goals
      cases z
      ·go_wp2_with fail
       go_ret
       exact⟨⟨false,rfl,fun e=>absurd e (HN3.out k x y hx.out hy.out fun h=>by have:=HZ.out.2 h;cases this)⟩,aA HB.out HB2.out⟩
      ·go_wp2_with fail
       go_roundw
       case rel=>exact⟨k+1,by omega,by go_num,HB2⟩
       case measure=>simp[Go.RowKit.intOf];omega
    ·obtain rfl:k=T.past.length:=by omega
     go_wp2_with fail
     refine(HST.out _ HBW.out).mono ?_
     rintro e w1 ⟨⟨z,rfl,hz⟩,hb⟩
     have HZ:=zH hz
     have HBE:=zH (aA (aA HB.out HBW.out) hb)
     clear hz hb
     go_wp2_with fail
     go_ret
     exact⟨⟨z,rfl,fun e=>HI.out z HZ.out e⟩,HBE.out⟩
  ·have hnl:((T.past.length:Int) != (U.past.length:Int))=true:=by simp;omega
   have HNL:=zH hl
   clear hl
   go_enter Tryz.func18,Tryz.ntmps18
   go_upto_region 1 with fail
   try rw[hW0]
   clear hW0
   go_wp2_with fail
   go_ret
   exact⟨⟨false,rfl,fun e=>absurd e (HN2.out HNL.out)⟩,HB.out⟩
 ·have hne:(t != u)=true:=by simp[htu]
  have HTU:=zH htu
  clear htu
  go_enter Tryz.func18,Tryz.ntmps18
  go_upto_region 1 with fail
  try rw[hW0]
  clear hW0
  go_wp2_with fail
  go_ret
  exact⟨⟨false,rfl,fun e=>absurd e (HN1.out HTU.out)⟩,HB.out⟩
def yU(t:Int):Int:=if 1≤t∧t≤3 then t else 0
def yW(t:Int):Int:=if 1≤t∧t≤3 then aJ t else 0
theorem GK(w:World)(t k:Int):Hid (aD (w.alloc (.cells #[.int .i64 t,.int .i64 k,.slice none 0 0,.slice none 0 0] 33)) w.heap.size 33 [.int .i64 t,.int .i64 k,.slice none 0 0,.slice none 0 0])∧Hid (Below w.heap.size w (w.alloc (.cells #[.int .i64 t,.int .i64 k,.slice none 0 0,.slice none 0 0] 33))):=
 ⟨aD.new w _ [.int .i64 t,.int .i64 k,.slice none 0 0,.slice none 0 0],(Below.refl _ _).alloc (Nat.le_refl _) _⟩
theorem QN(t:Int)(w:World):Calls Tryz.prog 87 #[.int .i64 t] w fun e w' =>e= .returned (.agg #[.int .i64 (yU t),.int .i64 (yW t),.slice none 0 0,.slice none 0 0])∧Below w.heap.size w w' :=by
 by_cases h:1≤t∧t≤3
 ·rw[show yU t=t by unfold yU;rw[if_pos h],show yW t=aJ t by unfold yW;rw[if_pos h]]
  have HA:=zH (fun W=>FE t W h.1 h.2)
  have HI:=zH (fun W=>hV t 1 3 W h.1 h.2)
  obtain⟨q,hq⟩:∃q,aJ t=q:=⟨_,rfl⟩
  rw[hq] at HA⊢
  obtain⟨HZ,HB⟩:=GK w t q
  clear h hq
  go_enter Tryz.func87,Tryz.ntmps87
  go_wp2_with fail
  refine(HI.out _).mono ?_
  rintro e w' ⟨rfl,rfl⟩
  go_wp2_with fail
  refine(HA.out _).mono ?_
  rintro e w' ⟨rfl,rfl⟩
  go_wp2_with fail
  refine bodyPost_ret_by (gV (b:=w.heap.size) rfl rfl HZ) rfl ⟨rfl,HB.out⟩
 ·rw[show yU t=0 by unfold yU;rw[if_neg h],show yW t=0 by unfold yW;rw[if_neg h]]
  have HI:=zH (fun W=>n4 t 1 3 W (by omega))
  obtain⟨HZ,HB⟩:=GK w 0 0
  clear h
  go_enter Tryz.func87,Tryz.ntmps87
  go_wp2_with fail
  refine(HI.out _).mono ?_
  rintro e w' ⟨rfl,rfl⟩
  go_wp2_with fail
  refine bodyPost_ret_by (gV (b:=w.heap.size) rfl rfl HZ) rfl ⟨rfl,HB.out⟩
theorem xJ{T:aL}(k:Int)(s:ByteArray)(h:dP T=true):dP (dN T k s).1=true∧(dN T k s).1.things=T.things∧cD (dN T k s).1:=by
 unfold dN
 rw[if_pos h]
 cases hd:gJ T k s with
 |none=>exact⟨h,rfl,lQ h⟩
 |some X=>
  have:=LN aH h hd
  exact⟨this.1,this.2,lQ this.1⟩
end Go.Proofs.YtfhjcacfchkdpaaGreatDoor
