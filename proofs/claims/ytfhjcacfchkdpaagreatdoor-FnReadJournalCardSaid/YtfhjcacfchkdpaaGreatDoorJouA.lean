/-
  Chapter 9, by the door: what the law of ReadJournal says of what was read.
-/
import Derived.Test.YtfhjcacfchkdpaaGreatDoorJouD
import Derived.Test.YtfhjcacfchkdpaaGreatDoorU29
import Derived.Test.YtfhjcacfchkdpaaGreatDoorU48
set_option maxRecDepth 100000
set_option maxHeartbeats 32000000
namespace Go.Proofs.YtfhjcacfchkdpaaGreatDoor
open Go.RowKit
theorem jTo_take(s:List UInt8):∀(k n:Nat),k≤n→k8 (s.take n) k=k8 s k
 |0,_,_=>rfl
 |k+1,n,h=>by
  have ih:=jTo_take s k n (by omega)
  show nD (s.take n) k (k8 (s.take n) k)=nD s k (k8 s k)
  rw[ih]
  unfold nD
  rw[List.getElem?_take_of_lt (by omega),List.take_take,Nat.min_eq_left (by omega)]
theorem jStep_from(s:List UInt8)(k:Nat){p:List Dd×Nat×Bool}(h:p.2.1≤k):(nD s k p).2.1≤k+1∧p.1<+:(nD s k p).1∧p.2.1≤(nD s k p).2.1:=by
 unfold nD
 split
 ·exact⟨by omega,List.prefix_refl _,Nat.le_refl _⟩
 split
 ·split
  ·exact⟨Nat.le_refl _,List.prefix_append _ _,by show p.2.1≤k+1;omega⟩
  ·exact⟨by show p.2.1≤k+1;omega,List.prefix_refl _,Nat.le_refl _⟩
 ·exact⟨by omega,List.prefix_refl _,Nat.le_refl _⟩
theorem jTo_from(s:List UInt8):∀k,(k8 s k).2.1≤k
 |0=>Nat.le_refl _
 |k+1=>(jStep_from s k (jTo_from s k)).1
theorem jTo_mono(s:List UInt8)(k:Nat):∀m,(k8 s k).1<+:(k8 s (k+m)).1∧(k8 s k).2.1≤(k8 s (k+m)).2.1
 |0=>⟨List.prefix_refl _,Nat.le_refl _⟩
 |m+1=>by
  obtain⟨h1,h2⟩:=jTo_mono s k m
  obtain⟨_,h3,h4⟩:=jStep_from s (k+m) (jTo_from s (k+m))
  exact⟨h1.trans h3,Nat.le_trans h2 h4⟩
theorem readJ_cut(s:List UInt8){k:Nat}(hk:k≤s.length):(AG (s.take k)).1<+:(AG s).1∧(AG (s.take k)).2≤k:=by
 unfold AG
 rw[List.length_take,Nat.min_eq_left hk,jTo_take s k k (Nat.le_refl _)]
 have h:=jTo_mono s k (s.length-k)
 rw[show k+(s.length-k)=s.length by omega] at h
 exact⟨h.1,jTo_from s k⟩
theorem jStep_lines(s:List UInt8)(k:Nat){p:List Dd×Nat×Bool}(hf:p.2.1≤k)(h1:dF p.1=s.take p.2.1)(h2:∀d∈p.1,eV d≠[]):
  dF (nD s k p).1=s.take (nD s k p).2.1∧∀d∈(nD s k p).1,eV d≠[]:=by
 unfold nD
 split
 ·exact⟨h1,h2⟩
 split
 ·rename_i hn
  split
  ·rename_i d hd
   have e:=OK hd
   refine⟨?_,fun x hx=> ?_⟩
   ·show dF (p.1++[d])=s.take (k+1)
    rw[KM,h1,e.1,List.take_add_one,hn]
    have:s.take p.2.1=(s.take k).take p.2.1:=by rw[List.take_take,Nat.min_eq_left hf]
    rw[this,←List.append_assoc,List.take_append_drop]
    rfl
   ·rcases List.mem_append.1 hx with hx|hx
    ·exact h2 x hx
    ·obtain rfl:=List.mem_singleton.1 hx
     rw[e.1];exact e.2
  ·exact⟨h1,h2⟩
 ·exact⟨h1,h2⟩
theorem jTo_lines(s:List UInt8):∀k,dF (k8 s k).1=s.take (k8 s k).2.1∧∀d∈(k8 s k).1,eV d≠[]
 |0=>⟨rfl,fun d h=>by cases h⟩
 |k+1=>by
  obtain⟨h1,h2⟩:=jTo_lines s k
  exact jStep_lines s k (jTo_from s k) h1 h2
theorem readJ_text(s:List UInt8):pQ (AG s).1=s.take (AG s).2∧(AG s).2≤s.length:=by
 obtain⟨h1,h2⟩:=jTo_lines s s.length
 exact⟨(D7 h2).trans h1,jTo_from s _⟩
theorem dd_u(xs:List Dd):(xs.map VH).map p9=xs:=by
 rw[List.map_map]
 have:p9∘VH=id:=by funext d;rfl
 rw[this,List.map_id]
theorem rj_cut{s:ByteArray}{k:Nat}(hk:k≤s.size):(xW (s.extract 0 k)).1<+:(xW s).1∧(xW (s.extract 0 k)).2≤k:=by
 obtain⟨h1,h2⟩:=readJ_cut (bL s) (k:=k) hk
 unfold xW
 rw[j7,List.drop_zero]
 obtain⟨t,ht⟩:=h1
 exact⟨⟨t.map VH,by rw[←ht,List.map_append]⟩,h2⟩
theorem rj_text(s:ByteArray):jourB (xW s).1=s.extract 0 (xW s).2∧(xW s).2≤s.size:=by
 obtain⟨h1,h2⟩:=readJ_text (bL s)
 refine⟨gI ?_,h2⟩
 unfold jourB xW
 rw[dd_u,kO,j7,List.drop_zero]
 exact h1
theorem rj_deeds(s:ByteArray):∀d∈(xW s).1,bL (b8 d)≠[]:=by
 intro d hd
 obtain⟨x,hx,rfl⟩:=List.mem_map.1 hd
 have h:=(jTo_lines (bL s) (bL s).length).2 x hx
 rw[deedB_of]
 exact h
theorem text_deed{d:Dd}(h:eV d≠[]):d.text.length≤(eV d).length:=by
 unfold eV at h⊢
 split
 ·rw[List.length_append];omega
 split
 ·rw[List.length_append];omega
 split
 ·rename_i h3;rw[h3];exact Nat.zero_le _
 ·rename_i h1 h2 h3;rw[if_neg h1,if_neg h2,if_neg h3] at h;exact absurd rfl h
theorem lines_mem:∀{xs:List Dd} {d:Dd},d∈xs→(eV d).length≤(dF xs).length
 |x::xs,d,h=>by
  have e:dF (x::xs)=(eV x++[10])++dF xs:=by unfold dF;rw[List.flatMap_cons]
  rw[e,List.length_append,List.length_append]
  rcases List.mem_cons.1 h with rfl|h
  ·omega
  ·have:=lines_mem h;omega
theorem rj_sizes(s:ByteArray):(∀d∈(xW s).1,d.2.size≤s.size∧(b8 d).size≤s.size):=by
 intro d hd
 obtain⟨x,hx,rfl⟩:=List.mem_map.1 hd
 obtain⟨h1,h2⟩:=jTo_lines (bL s) (bL s).length
 have h3:=lines_mem hx
 have h4:(dF (AG (bL s)).1).length≤s.size:=by
  unfold AG
  rw[h1,List.length_take,gF]
  omega
 have h5:=text_deed (h2 x hx)
 exact⟨Nat.le_trans h5 (Nat.le_trans h3 h4),Nat.le_trans h3 h4⟩
theorem rj_len(s:ByteArray):(xW s).1.length≤s.size:=by
 obtain⟨h1,_⟩:=jTo_lines (bL s) (bL s).length
 have h4:(dF (AG (bL s)).1).length≤s.size:=by
  unfold AG
  rw[h1,List.length_take,gF]
  omega
 have h5:∀xs:List Dd,xs.length≤(dF xs).length:=by
  intro xs
  induction xs with
  |nil=>exact Nat.le_refl _
  |cons x xs ih=>
   have e:dF (x::xs)=(eV x++[10])++dF xs:=by unfold dF;rw[List.flatMap_cons]
   rw[e,List.length_append,List.length_append]
   simp only[List.length_cons,List.length_nil]
   omega
 exact Nat.le_trans (by rw[show(xW s).1.length=(AG (bL s)).1.length from List.length_map ..];exact h5 _) h4
def linesTo(T:aL)(ds:List bK)(k:Nat):aL:=((ds.take k).map b8).foldl (fun T line=>(kS T line).1) T
theorem linesTo_next{T:aL}{ds:List bK}{k:Nat}{d:bK}(h:Hid (ds[k]? =some d)):linesTo T ds (k+1)=(kS (linesTo T ds k) (b8 d)).1:=by
 unfold linesTo
 rw[KT h,List.map_append,List.foldl_append]
 rfl
theorem linesTo_run{T:aL}{ds:List bK}(hok:dP T=true)(hl:ds.length≤40)(h:∀d∈ds,bL (b8 d)≠[]):linesTo T ds ds.length=(xM T ds).1:=by
 unfold linesTo
 rw[List.take_length,RO hok hl]
 exact Y2 aH sR p5 T ds h
theorem line_word{X Y:aL}{d:bK}{a:List UInt8}(h:kS X (b8 d)=(Y,a))(hd:bL (b8 d)≠[]):a=vI∨a=uQ:=by
 have:=M5 aH sR p5 X hd
 rw[show cH aH sR p5 X (b8 d)=(Y,a) from h] at this
 cases hv:cX aH X d.1 d.2 with
 |none=>rw[hv] at this;simp only[Prod.mk.injEq] at this;exact .inr this.2
 |some Z=>rw[hv] at this;simp only[Prod.mk.injEq] at this;exact .inl this.2
theorem take_prefix{xs ds:List bK}(h:xs<+:ds):ds.take xs.length=xs:=by
 obtain⟨t,rfl⟩:=h
 rw[List.take_left']
 rfl
end Go.Proofs.YtfhjcacfchkdpaaGreatDoor
