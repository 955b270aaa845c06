/-
  Chapter 9, by the door: talks after lines: what may turn while a talk goes on.
-/
import Derived.Test.YtfhjcacfchkdpaaGreatDoorU29
set_option maxRecDepth 100000
set_option maxHeartbeats 32000000
namespace Go.Proofs.YtfhjcacfchkdpaaGreatDoor
open Go.RowKit
def saysT(T:aL)(ls:List ByteArray):aL×List (List UInt8):=jS aH sR p5 T ls
def sayTo(T:aL)(ls:List ByteArray):aL×List ByteArray:=if dP T=true∧ls.length≤40 then((saysT T ls).1,(saysT T ls).2.map cJ) else(lW,[])
theorem say_bad{T:aL}{ls:List ByteArray}(h:¬(dP T=true∧ls.length≤40)):sayTo T ls=(lW,[]):=if_neg h
theorem say_good{T:aL}{ls:List ByteArray}(h:dP T=true)(hl:ls.length≤40):sayTo T ls=((saysT T ls).1,(saysT T ls).2.map cJ):=if_pos ⟨h,hl⟩
def saidT(T:aL)(ls:List ByteArray)(k:Nat):aL×List ByteArray:=((saysT T (ls.take k)).1,(saysT T (ls.take k)).2.map cJ)
theorem said_zero(T:aL)(ls:List ByteArray):saidT T ls 0=(T,[]):=rfl
theorem said_next{T X:aL}{ls an:List ByteArray}{k:Nat}{x:ByteArray}(hx:Hid (ls[k]? =some x))(h:saidT T ls k=(X,an)):saidT T ls (k+1)=((kS X x).1,an++[cJ (kS X x).2]):=by
 obtain⟨rfl,rfl⟩:=Prod.mk.inj h
 unfold saidT
 rw[nN hx]
 have e:saysT T (ls.take k++[x])=((kS (saysT T (ls.take k)).1 x).1,(saysT T (ls.take k)).2++[(kS (saysT T (ls.take k)).1 x).2]):=WT aH sR p5 (ls.take k) [x] T
 rw[e]
 simp
theorem said_ok{T X:aL}{ls an:List ByteArray}{k:Nat}(h:saidT T ls k=(X,an))(hok:dP T=true)(hk:k≤ls.length):dP X=true∧an.length=k:=by
 obtain⟨rfl,rfl⟩:=Prod.mk.inj h
 obtain⟨h1,_,_,h4⟩:=Y8 aH sR p5 (ls.take k) (T:=T) hok VL
 exact⟨h1,by rw[List.length_map];exact h4.trans (by rw[List.length_take];omega)⟩
theorem said_all{T:aL}{ls:List ByteArray}(h:dP T=true)(hl:ls.length≤40):saidT T ls ls.length=sayTo T ls:=by rw[say_good h hl];unfold saidT;rw[List.take_length]
theorem sayTo_small(T:aL)(ls:List ByteArray):cD (sayTo T ls).1∧(sayTo T ls).2.length≤40:=by
 by_cases h:dP T=true∧ls.length≤40
 ·obtain⟨h1,h2⟩:=said_ok (k:=ls.length) (Prod.eta (saidT T ls ls.length)).symm h.1 (Nat.le_refl _)
  rw[←said_all h.1 h.2]
  exact⟨lQ h1,by omega⟩
 ·rw[say_bad h];exact⟨⟨by decide,by decide,(fun s hs=>by cases hs),(fun x hx=>by cases hx)⟩,by decide⟩
/-! All blocks but some stand. -/
def ExcP(P:Nat→Prop)(w0 W:World):Prop:=w0.heap.size≤W.heap.size∧∀k,k<w0.heap.size→¬P k→W.heap[k]? =w0.heap[k]?
theorem ExcP.refl(P:Nat→Prop)(w:World):ExcP P w w:=⟨Nat.le_refl _,fun _ _ _=>rfl⟩
theorem ExcP.trans{P:Nat→Prop}{w w1 w2:World}(h1:ExcP P w w1)(h2:ExcP P w1 w2):ExcP P w w2:=⟨Nat.le_trans h1.1 h2.1,fun k hk hn=>(h2.2 k (Nat.lt_of_lt_of_le hk h1.1) hn).trans (h1.2 k hk hn)⟩
theorem ExcP.of_below{P:Nat→Prop}{w w1:World}(hb:Below w.heap.size w w1):ExcP P w w1:=⟨hb.size,fun k hk _=>hb.block k hk⟩
theorem ExcP.of_exc{P:Nat→Prop}{h:Nat}{w w1:World}(he:fI h w w1)(hp:P h):ExcP P w w1:=⟨he.1,fun k hk hn=>he.2 k hk (fun e=>hn (e▸hp))⟩
theorem tkR_of_excP{P:Nat→Prop}{w0:World}{T:aL}{A B:Option Addr}{n c m d:Nat}(H:∀W,ExcP P w0 W→bN W T A n c B m d):qL (ExcP P w0) T A n c B m d:=by
 have h0:=H w0 (ExcP.refl P w0)
 obtain⟨vs,hp,hc⟩:=wP h0.hB
 refine⟨h0.hn,h0.hc,h0.hm,fun W hr=>(H W hr).hA,h0.pn,h0.pc,h0.pm,?_,fun _ _ h1 h2=>h1.trans (ExcP.of_below h2)⟩
 by_cases hpos:0<T.past.length
 ·obtain⟨b,off,e,hlt,_⟩:=h0.hB hpos
  have hne:¬P b:=by
   intro hbh
   have hx:ExcP P w0 {w0 with heap:=w0.heap.setIfInBounds b (.cells #[] 0)}:=⟨by simp,fun k hk hn=>by
    have:b≠k:=fun e=>hn (e▸hbh)
    simp[this]⟩
   obtain⟨b',off',e',_,hcc⟩:=(H _ hx).hB hpos
   rw[e] at e'
   cases e'
   obtain⟨Ai,ci,f1,_⟩:=hcc 0 T.past[0] (List.getElem?_eq_getElem hpos)
   simp[World.cell?,hlt] at f1
  have hcell:∀W,ExcP P w0 W→∀(j:Nat) (u:Value),(bQ vs)[j]? =some u→W.cell? ⟨b,off+j,none⟩=some u:=fun W hr j u hj=>
   (World.cell?_of_block (a:=⟨b,off+j,none⟩) (hr.2 b hlt hne)).trans (hc b off e j u hj)
  refine⟨vs,fun W hr=>⟨hp.1,fun i x hx=> ?_⟩,fun W hr _=>⟨b,off,e,Nat.lt_of_lt_of_le hlt hr.1,hcell W hr⟩⟩
  obtain⟨A0,c0,a1,a2,a3,_⟩:=hp.2 i x hx
  refine⟨A0,c0,a1,a2,a3,?_⟩
  obtain⟨b',off',e',_,hcc⟩:=(H W hr).hB hpos
  rw[e] at e'
  cases e'
  obtain⟨Ai,ci,_,f2,_,_,f5⟩:=hcc i x hx
  have g2:=hcell W hr _ _ (gO vs i _ a1).2
  rw[←Nat.add_assoc,f2] at g2
  cases g2
  exact f5
 ·have hn:T.past=[]:=List.eq_nil_of_length_eq_zero (by omega)
  refine⟨[],fun W _=>by rw[hn];exact dM.nil W,fun W _ h=>absurd h hpos⟩
theorem wpL_appV{W:World}{ops:Array Oper}{rest:List Oper}{o:Oper}{a:Act}{Q:Exit→Act→World→Prop}(hgd:o.guard=none)(s x:Operand)
  (ho:o.op= .call {callee:= .builtin .append,args:= #[s,x],argTypes:= #[28,28]}) (base:Nat) (v:Value) (xs:List ByteArray) (hs:a.eval s=v) (hown:aK W base v xs)
  (y:ByteArray) (hx:a.eval x= .slice (some ⟨W.heap.size,0,none⟩) 1 1) (hl:xs.length≤1048576) (hb:base≤W.heap.size)
  (h:∀v' w',aK w' base v' (xs++[y])→(W.alloc (.cells #[.string y] 9)).grownBy w' v.ownBlock→(∀k,v'.ownBlock=some k→v.ownBlock=some k∨W.heap.size≤k)→wpList Tryz.prog ops Q rest (a.put o.dst v') w'):
  wpList Tryz.prog ops Q (o::rest) a (W.alloc (.cells #[.string y] 9)):=by
 obtain⟨i0,hi0,hz0,hz1,hz2⟩:=info_parts uN
 refine wpList_append_own_at _ hgd s x 28 ho base 9 i0 (.string ByteArray.empty) 1 16 Tryz.underlying28 hi0 hz0 hz1 hz2 rfl (by decide) v xs.length (xs.map (Value.string)) hs (World.ownsRow.alloc hown _)
  ⟨W.heap.size,0,none⟩ 1 1 [.string y] hx rfl (cell_one_new _ _ _) (fun u hu=>by rw[List.mem_singleton] at hu;subst hu;rfl) (by simp only[maxLen];omega) (by omega) (by rw[World.size_alloc];omega) ?_
 intro v' w' h1 h2 _ h4
 refine h v' w' ?_ h2 (fun k hk=> ?_)
 ·unfold aK
  simpa using h1
 ·rcases h4 with h4|h4
  ·left;rw[←h4];exact hk
  ·right;rw[h4,World.size_alloc] at hk;injection hk with hk;omega
def Ans(h:Nat)(v:Value)(k:Nat):Prop:=k=h∨v.ownBlock=some k
def set4(w:World)(h:Nat)(a b c d:Value):World:=(((w.setCell ⟨h,0,none⟩ a).setCell ⟨h,1,none⟩ b).setCell ⟨h,2,none⟩ c).setCell ⟨h,3,none⟩ d
theorem said_talk{h:Nat}{v v' :Value}{w0 w8 w9 w' :World}{o:Obj}{X:aL}{A B:Option Addr}{n c m d:Nat}{p q r s:Value}(hh:h<w0.heap.size)(hv:∀k,v.ownBlock=some k→k<w0.heap.size)
  (hat:∀w2,ExcP (Ans h v) w0 w2→aX w0.heap.size w8 w2→bN w2 X A n c B m d) (hb:Below w0.heap.size w0 w8) (hb9:Below w8.heap.size w8 w9) (hg:((set4 w9 h p q r s).alloc o).grownBy w' v.ownBlock)
  (hv' :∀k,v'.ownBlock=some k→v.ownBlock=some k∨w9.heap.size≤k):∀W,ExcP (Ans h v') w' W→bN W X A n c B m d:=by
 intro W hW
 have hE:fI h w9 (set4 w9 h p q r s):=fI.set4 h w9 p q r s
 have hsz:w9.heap.size≤((set4 w9 h p q r s).alloc o).heap.size:=by rw[World.size_alloc];have:=hE.1;omega
 have key:∀k,k<w9.heap.size→k≠h→v.ownBlock≠some k→W.heap[k]? =w9.heap[k]? :=fun k hk h1 h2=>by
  have a1:w'.heap[k]? =((set4 w9 h p q r s).alloc o).heap[k]? :=hg.block k (by omega) (fun e=>h2 e.symm)
  have a2:((set4 w9 h p q r s).alloc o).heap[k]? =(set4 w9 h p q r s).heap[k]? :=Below.heap_alloc _ o k (by have:=hE.1;omega)
  have a3:=hE.2 k hk h1
  refine(hW.2 k (by have:=hg.size;omega) ?_).trans (a1.trans (a2.trans a3))
  rintro(e|e)
  ·exact h1 e
  ·rcases hv' k e with e2|e2
   ·exact h2 e2
   ·omega
 have h89:=hb9.size
 have h08:=hb.size
 have hWs:w9.heap.size≤W.heap.size:=Nat.le_trans hsz (Nat.le_trans hg.size hW.1)
 refine hat W ⟨by omega,fun k hk hn=> ?_⟩ ⟨by omega,fun k h1 h2=> ?_⟩
 ·exact(key k (by omega) (fun e=>hn (.inl e)) (fun e=>hn (.inr e))).trans ((hb9.block k (by omega)).trans (hb.block k hk))
 ·exact(key k (by omega) (by omega) (fun e=>by have:=hv k e;omega)).trans (hb9.block k h2)
theorem strs_ownP{w w' :World}{A:Option Addr}{xs:List ByteArray}{lo:Nat}{row:Option Nat}(h:a7 w A xs)(hg:w.grownBy w' row)(hr:∀k,row=some k→lo≤k)(hA:0<xs.length→∀ad,A=some ad→ad.block<lo):a7 w' A xs:=by
 intro hn
 obtain⟨b,off,rfl,hb,hc⟩:=h hn
 have hlo:=hA hn _ rfl
 have hblk:w'.heap[b]? =w.heap[b]? :=hg.block b hb (fun e=>by have:=hr b e.symm;simp at hlo;omega)
 exact⟨b,off,rfl,Nat.lt_of_lt_of_le hb hg.size,fun i hi=>(World.cell?_of_block (a:=⟨b,off+i,none⟩) hblk).trans (hc i hi)⟩
theorem strs_exc{w w' :World}{A:Option Addr}{xs:List ByteArray}{h:Nat}(hs:a7 w A xs)(he:fI h w w')(hA:0<xs.length→∀ad,A=some ad→ad.block≠h):a7 w' A xs:=by
 intro hn
 obtain⟨b,off,rfl,hb,hc⟩:=hs hn
 exact⟨b,off,rfl,Nat.lt_of_lt_of_le hb he.1,fun i hi=>(World.cell?_of_block (a:=⟨b,off+i,none⟩) (he.2 b hb (hA hn _ rfl))).trans (hc i hi)⟩
theorem tk_blocksP{w W:World}{T:aL}{A B:Option Addr}{n c m d:Nat}(h:bN w T A n c B m d)(hle:w.heap.size≤W.heap.size)(he:∀k,k<w.heap.size→W.heap[k]? =w.heap[k]?):bN W T A n c B m d:=by
 refine⟨h.hn,h.hc,h.hm,yN h.hA hle he,h.pn,h.pc,h.pm,fun hn=> ?_⟩
 obtain⟨b,off,e,hlt,hc⟩:=h.hB hn
 refine⟨b,off,e,Nat.lt_of_lt_of_le hlt hle,fun i x hx=> ?_⟩
 obtain⟨Ai,ci,h1,h2,h3,h4,h5⟩:=hc i x hx
 exact⟨Ai,ci,(World.cell?_of_block (a:=⟨b,off+i*2,none⟩) (he b hlt)).trans h1,(World.cell?_of_block (a:=⟨b,off+i*2+1,none⟩) (he b hlt)).trans h2,h3,h4,yN h5 hle he⟩
theorem zboxP{B:Nat}{W0 wx:World}(_:Below B W0 wx):aD (wx.alloc (.cells #[.int .i64 0,.int .i64 0,.slice none 0 0,.slice none 0 0] 33)) wx.heap.size 33 [.int .i64 0,.int .i64 0,.slice none 0 0,.slice none 0 0]:=aD.new wx _ [.int .i64 0,.int .i64 0,.slice none 0 0,.slice none 0 0]
theorem al_genP{B:Nat}{W0 wx:World}(h:Below B W0 wx)(hB:B≤wx.heap.size):∃wz,wx.alloc (.cells #[.int .i64 0,.int .i64 0,.slice none 0 0,.slice none 0 0] 33)=wz∧Hid (aD wz wx.heap.size 33 [.int .i64 0,.int .i64 0,.slice none 0 0,.slice none 0 0])∧Hid (B≤wx.heap.size)∧Hid (Below B W0 wz)∧Hid (Below wx.heap.size wx wz):=
 ⟨_,rfl,zboxP h,hB,h.alloc hB _,oA _ _⟩
def ApV(v o:Value)(vs:List (Int×Value)):Prop:=∀k,v.ownBlock=some k→o.ownBlock≠some k∧∀u∈vs,u.2.ownBlock≠some k
theorem ApV.nil(o:Value)(vs:List (Int×Value)):ApV (.slice none 0 0) o vs:=fun k hk=>by cases hk
theorem apV_old{w w' :World}{lo base:Nat}{v o p:Value}{vs:List (Int×Value)}{an os:List ByteArray}{xs:List (St ByteArray)}(hv:aK w base v an)(ho:aK w' lo o os)(hp:aY 30 w' lo p vs xs)(hl:w.heap.size≤lo):ApV v o vs:=fun k hk=>by
 have h1:=(World.ownsRow.lt hv k hk).2
 refine⟨fun e=> ?_,fun u hu e=> ?_⟩
 ·have:=(World.ownsRow.lt ho k e).1;omega
 ·obtain⟨i,hi⟩:=List.mem_iff_getElem?.1 hu
  have hil:i<xs.length:=by rw[←hp.sees.len];exact(List.getElem?_eq_some_iff.1 hi).1
  obtain⟨v2,h2,h3,_⟩:=hp.sees.at_ i xs[i] (List.getElem?_eq_getElem hil)
  rw[hi] at h2
  cases h2
  have:=(World.ownsRow.lt h3 k e).1;omega
def SaysPost(X:aL)(L:List ByteArray)(w:World)(e:Ending)(w' :World):Prop:=∃o p vs v,e= .returned (.tuple #[.agg #[.int .i64 X.things,.int .i64 X.now.known,o,p],v])∧aK w' w.heap.size o X.now.op∧aY 30 w' w.heap.size p vs X.past∧pE o vs∧aK w' w.heap.size v L∧ApV v o vs∧Below w.heap.size w w'
end Go.Proofs.YtfhjcacfchkdpaaGreatDoor
