/-
  What the proofs of this seat's statements share (AskI, DoI, DrwT, TdwA, TdxA, RunA).
-/
import Derived.Test.YtfhjcacfchkdpaaGreatDoorU27
set_option maxRecDepth 100000
set_option maxHeartbeats 32000000
namespace Go.Proofs.YtfhjcacfchkdpaaGreatDoor
open Go.RowKit
theorem BF{t:Int}{s:ByteArray}(h:fY t s=true):iC t (gM t s)=dO t s:=by
 obtain⟨x,hx⟩:=iV.1 (show aH.isS t s=true from h)
 obtain⟨h1,h3,_⟩:=jQ hx
 rw[AB (p8 hx),(kM hx).1]
 unfold dO
 rw[hx]
 exact(vZ h1 h3 x).symm
def xN(T:aL)(s:ByteArray):Bool:=fY T.things s&&(decide (T.now.op.length<4)&&(!Lib.containsS T.now.op s&&(!cF T.things (gM T.things s) T.now.known&&aB T.now.known (iC T.things (gM T.things s)))))
theorem UQ{T:aL}{s:ByteArray}(hok:dP T=true):gJ T 1 s=if xN T s=true then some (iG T ⟨T.now.known,T.now.op++[s]⟩) else none:=by
 obtain⟨hst,_,_⟩:=(cT aH).1 hok
 obtain⟨hset,hne,hol,hopen,hnd⟩:=(cS aH).1 hst
 unfold gJ cX xN
 rw[if_neg (by decide),if_neg (by decide),if_pos rfl]
 cases hS:fY T.things s with
 |false=>rw[if_neg (by rw[show aH.isS T.things s=fY T.things s from rfl,hS];decide)];rfl
 |true=>
  rw[if_pos (show aH.isS T.things s=true from hS),BF hS,vV (show aH.isS T.things s=true from hS) hset]
  by_cases hw:aB T.now.known (dO T.things s)=true
  ·by_cases hso:bC aH T.things ⟨T.now.known,T.now.op++[s]⟩=true
   ·rw[if_pos ⟨hw,hso⟩]
    obtain⟨_,_,h4,h5,h6⟩:=(cS aH).1 hso
    have h7:=(h5 s (by simp)).2
    have h8:s∉T.now.op:=fun hm=>by
     have:=(List.nodup_append.1 h6).2.2 s hm s (by simp)
     exact this rfl
    have h9:Lib.containsS T.now.op s=false:=by
     rw[Bool.eq_false_iff];exact fun h=>h8 ((Lib.containsS_iff _ _).1 h)
    have h10:T.now.op.length<4:=by simp at h4;omega
    simp only at h7
    rw[if_pos (by rw[hw,h9,h7];simpa using h10)]
   ·rw[if_neg fun h=>hso h.2,if_neg]
    intro h
    simp only[Bool.true_and,Bool.and_eq_true,decide_eq_true_eq,Bool.not_eq_true'] at h
    obtain⟨h1,h2,h3,_⟩:=h
    apply hso
    refine(cS aH).2 ⟨hset,hne,by simp;omega,fun x hx=> ?_,?_⟩
    ·rcases List.mem_append.1 hx with hx|hx
     ·exact hopen x hx
     ·rw[List.mem_singleton] at hx
      subst hx
      exact⟨hS,h3⟩
    ·refine List.nodup_append.2 ⟨hnd,by simp,fun x hx y hy e=> ?_⟩
     rw[List.mem_singleton] at hy
     subst hy e
     rw[(Lib.containsS_iff _ _).2 hx] at h2;cases h2
  ·rw[if_neg fun h=>hw h.1,if_neg]
   intro h
   simp only[Bool.true_and,Bool.and_eq_true] at h
   exact hw h.2.2.2
theorem JF{A:Option Addr}{n c:Nat}{xs:List ByteArray}(w:World)(hn:n=xs.length)(hl:n≤1048576)(hA:a7 w A xs):
  Calls Tryz.prog 121 #[.slice A n c] w fun e w' =>∃v,e= .returned v∧aK w' w.heap.size v xs∧Below w.heap.size w w' :=by
 subst hn
 by_cases h0:xs.length=0
 ·obtain rfl:xs=[]:=List.eq_nil_of_length_eq_zero h0
  cases A with
  |none=>
   refine(Tryz.slices_Clone_string_nil 0 c w).mono ?_
   rintro e w' ⟨rfl,rfl⟩
   exact⟨_,rfl,aK.nil _ _,Below.refl _ _⟩
  |some a=>
   refine(Tryz.slices_Clone_string_zero a c w).mono ?_
   rintro e w' ⟨v,rfl,ho,_,hb⟩
   exact⟨v,rfl,ho,hb⟩
 ·obtain⟨b,off,rfl,_,hc⟩:=hA (by omega)
  refine(Tryz.slices_Clone_string b off xs.length c xs w (Nat.le_refl _) (by omega) hc).mono ?_
  rintro e w' ⟨v,rfl,ho,_,hb⟩
  rw[List.take_length] at ho
  exact⟨v,rfl,ho,hb⟩
theorem oV{P:Program}{f:FuncId}{args:Array Value}{w:World}{n:Nat}{v:Value}
  (h:Calls P f args (w.drewN n) fun e w' =>e= .returned v∧∃m,w' =(w.drewN n).drewN m):Calls P f args (w.drewN n) fun e w'' =>e= .returned v∧∃m,w'' =w.drewN m:=
 h.mono fun _ _ ⟨he,m,hm⟩=>⟨he,n+m,by rw[hm,World.drewN_drewN]⟩
theorem AO{P:Program}{f:FuncId}{args:Array Value}{w:World}{n:Nat}{v:Value}
  (h:Calls P f args (w.drewN n) fun e w' =>e= .returned v∧w.drewN n=w'):Calls P f args (w.drewN n) fun e w'' =>e= .returned v∧∃m,w'' =w.drewN m:=
 h.mono fun _ _ ⟨he,hm⟩=>⟨he,n,hm.symm⟩
theorem DT{t:Int}{xs:List Int}{v:Int}(h:Hid (iC t xs=v))(A:Option Addr)(nn c:Nat)(w:World)(hn:nn=xs.length)(hl:nn≤1048576)(hc:nn≤c)(hm:c≤maxLen)(hA:cB .i64 w A xs):
  Calls Tryz.prog 120 #[.int .i64 t,.slice A nn c] w fun e w' =>e= .returned (.int .i64 v)∧∃n,w' =w.drewN n:=
 (zY t A nn c xs w hn hl hc hm hA).mono fun _ _ ⟨he,hw⟩=>⟨he.trans (jR h.out),hw⟩
theorem EM{a b:Int}{v:Bool}(h:Hid (aB a b=v))(ha:0≤a)(ha2:a<1024)(hb:0≤b)(hb2:b<1024)(w:World):
  Calls Tryz.prog 119 #[.int .i64 a,.int .i64 b] w fun e w' =>e= .returned (.bool v)∧w=w' :=
 (xQ a b ha ha2 hb hb2 w).mono fun _ _ ⟨he,hw⟩=>⟨he.trans (aM h.out),hw⟩
theorem nS{w w5:World}{T:aL}{q t:Int}{A B:Option Addr}{c d:Nat}(hX:aD w5 w.heap.size 79 [.int .i64 q,.slice A T.now.op.length c,.int .i64 t,.slice B T.past.length d]):(w5.cell? ⟨w.heap.size,0,none⟩=some (.int .i64 q)∧w5.cell? ⟨w.heap.size,1,none⟩=some (.slice A T.now.op.length c)∧w5.cell? ⟨w.heap.size,2,none⟩=some (.int .i64 t)∧w5.cell? ⟨w.heap.size,3,none⟩=some (.slice B T.past.length d)):=
 ⟨hX.cell (i:=0) (v:= .int .i64 q) rfl,hX.cell (i:=1) (v:= .slice A T.now.op.length c) rfl,hX.cell (i:=2) (v:= .int .i64 t) rfl,hX.cell (i:=3) (v:= .slice B T.past.length d) rfl⟩
theorem OU{w5 w6:World}{op:List ByteArray}{text:ByteArray}{v:Value}(ho:aK w6 w5.drew.heap.size v op)(hb:Below w5.drew.heap.size w5.drew w6):
  aK (w6.alloc (.cells #[.string text] 9)) w5.drew.heap.size v op∧a7 (w6.alloc (.cells #[.string text] 9)) (some ⟨w6.heap.size,0,none⟩) [text]∧w5.drew.heap.size≤(w6.alloc (.cells #[.string text] 9)).heap.size∧Below w5.drew.heap.size w5.drew (w6.alloc (.cells #[.string text] 9)):=by
 have hba:=hb.alloc hb.size (.cells #[.string text] 9)
 exact⟨ho.below ((Below.refl _ _).alloc (Nat.le_refl _) _),oH w6 text,hba.size,hba⟩
theorem O8{w5 w6:World}{op:List ByteArray}{text:ByteArray}{v:Value}(_ho:aK w6 (w5.drew.alloc (.cells #[.string text] 9)).heap.size v op)(hb:Below (w5.drew.alloc (.cells #[.string text] 9)).heap.size (w5.drew.alloc (.cells #[.string text] 9)) w6):
  a7 w6 (some ⟨w5.heap.size,0,none⟩) [text]∧(w5.drew.alloc (.cells #[.string text] 9)).heap.size≤w6.heap.size∧Below w5.drew.heap.size w5.drew w6:=by
 have h:=(oH w5.drew text).below hb
 exact⟨h,hb.size,aA ((Below.refl _ _).alloc (Nat.le_refl _) _) hb⟩
def SB(w5 w7:World)(xs:List ByteArray)(A2:Option Addr)(n2 c2:Nat):Prop:=n2=xs.length∧n2≤c2∧c2≤maxLen∧aK w7 w5.heap.size (.slice A2 n2 c2) xs∧Below w5.heap.size w5 w7
theorem xP{w5 wa w7:World}{op xs:List ByteArray}{v v2:Value}{base:Nat}(ho:aK wa base v op)(hB:Below w5.drew.heap.size w5.drew wa)(hle:w5.drew.heap.size≤base)(hr:aK w7 base v2 xs)(hg:wa.grownBy w7 v.ownBlock):
  ∃A2 n2 c2,v2= .slice A2 n2 c2∧SB w5 w7 xs A2 n2 c2:=by
 have hb2:Below w5.drew.heap.size w5.drew w7:=B4 hB hB.size ho hle hg
 obtain⟨A2,c2,rfl,h1,h2,_⟩:=hr.form
 exact⟨A2,_,c2,rfl,rfl,h1,h2,hr.base hle,aA (aE (Below.refl w5.heap.size w5) 1) hb2⟩
theorem tL{R:World→Prop}{w w5 w7:World}{T X:aL}{q t:Int}{A B A2:Option Addr}{c d n2 c2:Nat}{text:ByteArray}(hTQ:T.things=t∧T.now.known=q)(hXT:X=iG T ⟨T.now.known,T.now.op++[text]⟩)(hT:qL R T A T.now.op.length c B T.past.length d)(hW:R w)(hpl:T.past.length≤10)
  (hX:aD w5 w.heap.size 79 [.int .i64 q,.slice A T.now.op.length c,.int .i64 t,.slice B T.past.length d]) (hZ:aD w5 (w.heap.size+1) 79 [.int .i64 0,.slice none 0 0,.int .i64 0,.slice none 0 0]) (hB:Below w.heap.size w w5) (h:SB w5 w7 (T.now.op++[text]) A2 n2 c2):
  Calls Tryz.prog 116 #[.agg #[.int .i64 q,.slice A T.now.op.length c,.int .i64 t,.slice B T.past.length d],.agg #[.int .i64 q,.slice A2 n2 c2]] w7 fun e w8=>∃B' m' d',e= .returned (.agg #[.int .i64 q,.slice A2 n2 c2,.int .i64 t,.slice B' m' d'])∧
   (w8.cell? ⟨w.heap.size,0,none⟩=some (.int .i64 q)∧w8.cell? ⟨w.heap.size,1,none⟩=some (.slice A T.now.op.length c)∧w8.cell? ⟨w.heap.size,2,none⟩=some (.int .i64 t)∧w8.cell? ⟨w.heap.size,3,none⟩=some (.slice B T.past.length d))∧(((((w8.setCell ⟨w.heap.size+1,0,none⟩ (.int .i64 q)).setCell ⟨w.heap.size+1,1,none⟩ (.slice A2 n2 c2)).setCell ⟨w.heap.size+1,2,none⟩ (.int .i64 t)).setCell ⟨w.heap.size+1,3,none⟩ (.slice B' m' d')).cell? ⟨w.heap.size,0,none⟩=some (.int .i64 q)∧((((w8.setCell ⟨w.heap.size+1,0,none⟩ (.int .i64 q)).setCell ⟨w.heap.size+1,1,none⟩ (.slice A2 n2 c2)).setCell ⟨w.heap.size+1,2,none⟩ (.int .i64 t)).setCell ⟨w.heap.size+1,3,none⟩ (.slice B' m' d')).cell? ⟨w.heap.size,1,none⟩=some (.slice A T.now.op.length c)∧((((w8.setCell ⟨w.heap.size+1,0,none⟩ (.int .i64 q)).setCell ⟨w.heap.size+1,1,none⟩ (.slice A2 n2 c2)).setCell ⟨w.heap.size+1,2,none⟩ (.int .i64 t)).setCell ⟨w.heap.size+1,3,none⟩ (.slice B' m' d')).cell? ⟨w.heap.size,2,none⟩=some (.int .i64 t)∧((((w8.setCell ⟨w.heap.size+1,0,none⟩ (.int .i64 q)).setCell ⟨w.heap.size+1,1,none⟩ (.slice A2 n2 c2)).setCell ⟨w.heap.size+1,2,none⟩ (.int .i64 t)).setCell ⟨w.heap.size+1,3,none⟩ (.slice B' m' d')).cell? ⟨w.heap.size,3,none⟩=some (.slice B T.past.length d))∧Hid ((w8.cell? ⟨w.heap.size+1,0,none⟩=some (.int .i64 0)∧w8.cell? ⟨w.heap.size+1,1,none⟩=some (.slice none 0 0)∧w8.cell? ⟨w.heap.size+1,2,none⟩=some (.int .i64 0)∧w8.cell? ⟨w.heap.size+1,3,none⟩=some (.slice none 0 0)∧w8.frozen? ⟨w.heap.size+1,0,none⟩=false∧w8.frozen? ⟨w.heap.size+1,1,none⟩=false∧w8.frozen? ⟨w.heap.size+1,2,none⟩=false∧w8.frozen? ⟨w.heap.size+1,3,none⟩=false)∧((w8.setCell ⟨w.heap.size+1,0,none⟩ (.int .i64 q)).cell? ⟨w.heap.size+1,1,none⟩=some (.slice none 0 0)∧(w8.setCell ⟨w.heap.size+1,0,none⟩ (.int .i64 q)).frozen? ⟨w.heap.size+1,1,none⟩=false)∧(((w8.setCell ⟨w.heap.size+1,0,none⟩ (.int .i64 q)).setCell ⟨w.heap.size+1,1,none⟩ (.slice A2 n2 c2)).cell? ⟨w.heap.size+1,2,none⟩=some (.int .i64 0)∧((w8.setCell ⟨w.heap.size+1,0,none⟩ (.int .i64 q)).setCell ⟨w.heap.size+1,1,none⟩ (.slice A2 n2 c2)).frozen? ⟨w.heap.size+1,2,none⟩=false)∧((((w8.setCell ⟨w.heap.size+1,0,none⟩ (.int .i64 q)).setCell ⟨w.heap.size+1,1,none⟩ (.slice A2 n2 c2)).setCell ⟨w.heap.size+1,2,none⟩ (.int .i64 t)).cell? ⟨w.heap.size+1,3,none⟩=some (.slice none 0 0)∧(((w8.setCell ⟨w.heap.size+1,0,none⟩ (.int .i64 q)).setCell ⟨w.heap.size+1,1,none⟩ (.slice A2 n2 c2)).setCell ⟨w.heap.size+1,2,none⟩ (.int .i64 t)).frozen? ⟨w.heap.size+1,3,none⟩=false))∧Hid (aD ((((w8.setCell ⟨w.heap.size+1,0,none⟩ (.int .i64 q)).setCell ⟨w.heap.size+1,1,none⟩ (.slice A2 n2 c2)).setCell ⟨w.heap.size+1,2,none⟩ (.int .i64 t)).setCell ⟨w.heap.size+1,3,none⟩ (.slice B' m' d')) (w.heap.size+1) 79 [.int .i64 q,.slice A2 n2 c2,.int .i64 t,.slice B' m' d'])∧Hid ((∀w2,R w2→aX w.heap.size ((((w8.setCell ⟨w.heap.size+1,0,none⟩ (.int .i64 q)).setCell ⟨w.heap.size+1,1,none⟩ (.slice A2 n2 c2)).setCell ⟨w.heap.size+1,2,none⟩ (.int .i64 t)).setCell ⟨w.heap.size+1,3,none⟩ (.slice B' m' d')) w2→bN w2 X A2 n2 c2 B' m' d')∧Below w.heap.size w ((((w8.setCell ⟨w.heap.size+1,0,none⟩ (.int .i64 q)).setCell ⟨w.heap.size+1,1,none⟩ (.slice A2 n2 c2)).setCell ⟨w.heap.size+1,2,none⟩ (.int .i64 t)).setCell ⟨w.heap.size+1,3,none⟩ (.slice B' m' d'))):=by
 obtain⟨h1,h2,h3,h4,h5⟩:=h
 have hgo:=J0 T A B _ c _ d R w7 hT (hT.fw _ _ hW (aA hB h5)) hpl T.now.known A2 n2 c2 (T.now.op++[text]) h1 h2 h3
 obtain⟨rfl,rfl⟩:=hTQ
 refine hgo.mono ?_
 rintro e w8 ⟨B',m',d',rfl,hat,hb⟩
 have hX8:=(hX.below h5).below hb
 have hZ8:=(hZ.below h5).below hb
 obtain⟨f1,f2,f3,f4,hout⟩:=hZ8.store4 (.int .i64 T.now.known) (.slice A2 n2 c2) (.int .i64 T.things) (.slice B' m' d')
 have hbe:=bG (aA (aA hB h5) hb) (show w.heap.size≤w.heap.size+1 by omega) (.int .i64 T.now.known) (.slice A2 n2 c2) (.int .i64 T.things) (.slice B' m' d')
 have hke:aX w5.heap.size w8 _:=jF hZ.lt (.int .i64 T.now.known) (.slice A2 n2 c2) (.int .i64 T.things) (.slice B' m' d')
 refine⟨B',m',d',rfl,nS hX8,nS (hX8.other4 (g:=w.heap.size+1) (by omega) _ _ _ _),⟨f1,f2,f3,f4⟩,hout,fun w2 g1 g2=> ?_,hbe⟩
 rw[hXT]
 have hk:=hke.trans g2 hB.size
 refine hat w2 g1 ⟨hk.1,fun b a1 a2=>hk.2 b (Nat.le_trans h5.size a1) a2⟩ ?_
 subst h1
 exact uD ((h4.below hb).keep hk)
theorem tH(W:World)(o:Obj):W.heap.size≤(W.alloc o).heap.size:=by rw[World.size_alloc];exact Nat.le_succ _
theorem YA(T:aL)(A B:Option Addr)(n c m d:Nat)(text:ByteArray)(R:World→Prop)(w:World)(hT:qL R T A n c B m d)(hbw:R w)(hok:dP T=true)(hx:text.size≤1048576)(X:aL)(r:Bool)(hr:(gJ T 1 text=none∧X=T∧r=false)∨(gJ T 1 text=some X∧r=true)):
  Calls Tryz.prog 93 #[.agg #[.int .i64 T.now.known,.slice A n c,.int .i64 T.things,.slice B m d],.string text] w (qB X r R w):=by
 obtain rfl:=hT.pn
 obtain rfl:=hT.hn
 obtain⟨hst,hpl,_⟩:=(cT aH).1 hok
 obtain⟨hset,_,hol,_,_⟩:=(cS aH).1 hst
 obtain⟨ht1,ht3,hq0,hqa,hq256⟩:=aZ hset
 have hx9:text.size≤9223372036854775807:=by omega
 have HT:=zH hT
 have HW:=zH hbw
 rw[UQ hok] at hr
 have HXR:Hid ((xN T text=false→X=T∧r=false)∧(xN T text=true→X=iG T ⟨T.now.known,T.now.op++[text]⟩∧r=true)):=by
  refine⟨fun h=> ?_,fun h=> ?_⟩
  ·rw[h,if_neg (by decide)] at hr
   rcases hr with⟨_,h⟩|⟨h,_⟩
   ·exact h
   ·cases h
  ·rw[h,if_pos rfl] at hr
   rcases hr with⟨h,_⟩|⟨h,h2⟩
   ·cases h
   ·exact⟨(Option.some.inj h).symm,h2⟩
 obtain⟨l,hl⟩:∃l,gM T.things text=l:=⟨_,rfl⟩
 have hlen:=qT T.things text
 rw[hl] at hlen
 obtain⟨g,hg⟩:∃g,iC T.things l=g:=⟨_,rfl⟩
 have hg9:fY T.things text=true→0≤g∧g<256:=fun h=>by
  rw[←hg,←hl,BF h]
  obtain⟨x,hx⟩:=iV.1 (show aH.isS T.things text=true from h)
  have h1:=nK hx
  have h2:=(bH T.things).2
  omega
 obtain⟨z1,hz1⟩:∃z,fY T.things text=z:=⟨_,rfl⟩
 obtain⟨z3,hz3⟩:∃z,Lib.containsS T.now.op text=z:=⟨_,rfl⟩
 obtain⟨z4,hz4⟩:∃z,cF T.things l T.now.known=z:=⟨_,rfl⟩
 obtain⟨z5,hz5⟩:∃z,aB T.now.known g=z:=⟨_,rfl⟩
 have hAO:xN T text=(z1&&(decide (T.now.op.length<4)&&(!z3&&(!z4&&z5)))):=by unfold xN;rw[hl,hg,hz1,hz3,hz4,hz5]
 rw[hAO] at HXR
 rw[hz1] at hg9
 obtain⟨t,ht⟩:∃t,T.things=t:=⟨_,rfl⟩
 obtain⟨q,hq⟩:∃q,T.now.known=q:=⟨_,rfl⟩
 have HTQ:Hid (T.things=t∧T.now.known=q):=⟨ht,hq⟩
 rw[ht] at hl hg hz1 hz4
 rw[hq] at hz4 hz5 hq0 hq256
 have HL:=zH hl
 have HG:=zH hg
 have HI:=zH hz1
 have H4:=zH hz4
 have H5:=zH hz5
 have HCO:Hid (∀W:World,a7 W A T.now.op→Calls Tryz.prog 106 #[.slice A T.now.op.length c,.string text] W fun e w' =>e= .returned (.bool z3)∧W=w'):=fun W hs=>by rw[←hz3];exact AK text _ c rfl (by omega) hs
 obtain⟨HX,HZ,HB⟩:=pH w 79 79 (.int .i64 q) (.slice A T.now.op.length c) (.int .i64 t) (.slice B T.past.length d) (.int .i64 0) (.slice none 0 0) (.int .i64 0) (.slice none 0 0)
 rw[ht,hq]
 clear hr hAO hT hok hst hset ht hq hl hg hz1 hz3 hz4 hz5 ht1 ht3 hqa
 go_enter Tryz.func93,Tryz.ntmps93
 go_upto_region 1 with fail
 obtain⟨W0,hW0⟩:∃W,(w.alloc (.cells #[.int .i64 q,.slice A T.now.op.length c,.int .i64 t,.slice B T.past.length d] 79)).alloc (.cells #[.int .i64 0,.slice none 0 0,.int .i64 0,.slice none 0 0] 79)=W:=⟨_,rfl⟩
 rw[hW0] at HX HZ HB⊢
 clear hW0
 have hc2:=HX.out.cell (i:=2) (v:= .int .i64 t) rfl
 go_wp2_with fail
 refine(sO HL HI _ hx9).mono ?_
 rintro e w1 ⟨v,rfl,ho,hb⟩
 have HXE:=zH (HX.out.below hb)
 have HZE:=zH (HZ.out.below hb)
 have HBE:=zH (aA HB.out hb)
 obtain⟨Al,cl,rfl,_,_,_,_⟩:=ho.form
 have HR:=zH (aS.row ho (by omega))
 clear hb hc2 HX HZ HB ho
 cases z1 with
 |false=>
  obtain⟨hXT,rfl⟩:=HXR.out.1 rfl
  obtain rfl:T=X:=hXT.symm
  clear hXT hlen
  have hc0:=HXE.out.cell (i:=0) (v:= .int .i64 q) rfl
  have hc1:=HXE.out.cell (i:=1) (v:= .slice A T.now.op.length c) rfl
  have hc2:=HXE.out.cell (i:=2) (v:= .int .i64 t) rfl
  have hc3:=HXE.out.cell (i:=3) (v:= .slice B T.past.length d) rfl
  obtain⟨⟨ha0,ha1,ha2,ha3,ha4,ha5,ha6,ha7⟩,⟨hb2,hb3⟩,⟨hb4,hb5⟩,⟨hb6,hb7⟩,HOUT,HFIN⟩:=j5 (t:=t) (q:=q) HT.out HBE.out HZE.out
  go_wp2_with fail
  refine bodyPost_ret_by (bS (b:=w.heap.size+1) rfl rfl rfl HOUT) rfl ⟨A,_,c,B,_,d,by rw[HTQ.out.1,HTQ.out.2];rfl,HFIN.out⟩
 |true=>
  obtain⟨hg0,hg1⟩:=hg9 rfl
  have hc0:=HXE.out.cell (i:=0) (v:= .int .i64 q) rfl
  have hc1:=HXE.out.cell (i:=1) (v:= .slice A T.now.op.length c) rfl
  have hc2:=HXE.out.cell (i:=2) (v:= .int .i64 t) rfl
  by_cases h4:(4:Int)≤(T.now.op.length:Int)
  ·have hd:decide ((4:Int)≤(T.now.op.length:Int))=true:=decide_eq_true h4
   obtain⟨hXT,rfl⟩:=HXR.out.1 (by rw[decide_eq_false (by omega)];rfl)
   obtain rfl:T=X:=hXT.symm
   clear hXT hlen h4 hc0 hc1 hc2
   have hc0:=HXE.out.cell (i:=0) (v:= .int .i64 q) rfl
   have hc1:=HXE.out.cell (i:=1) (v:= .slice A T.now.op.length c) rfl
   have hc2:=HXE.out.cell (i:=2) (v:= .int .i64 t) rfl
   have hc3:=HXE.out.cell (i:=3) (v:= .slice B T.past.length d) rfl
   obtain⟨⟨ha0,ha1,ha2,ha3,ha4,ha5,ha6,ha7⟩,⟨hb2,hb3⟩,⟨hb4,hb5⟩,⟨hb6,hb7⟩,HOUT,HFIN⟩:=j5 (t:=t) (q:=q) HT.out HBE.out HZE.out
   go_wp2_with fail
   refine bodyPost_ret_by (bS (b:=w.heap.size+1) rfl rfl rfl HOUT) rfl ⟨A,_,c,B,_,d,by rw[HTQ.out.1,HTQ.out.2];rfl,HFIN.out⟩
  ·have hd:decide ((4:Int)≤(T.now.op.length:Int))=false:=decide_eq_false h4
   have HD:Hid (decide (T.now.op.length<4)=true):=decide_eq_true (by omega)
   rw[HD.out,Bool.true_and,Bool.true_and] at HXR
   clear h4
   have HCW:=zH (HCO.out w1 (HT.out.hA _ (HT.out.fw _ _ HW.out HBE.out)))
   cases z3 with
   |true=>
    obtain⟨hXT,rfl⟩:=HXR.out.1 rfl
    obtain rfl:T=X:=hXT.symm
    clear hXT hlen hc0 hc1 hc2
    have hc0:=HXE.out.cell (i:=0) (v:= .int .i64 q) rfl
    have hc1:=HXE.out.cell (i:=1) (v:= .slice A T.now.op.length c) rfl
    have hc2:=HXE.out.cell (i:=2) (v:= .int .i64 t) rfl
    have hc3:=HXE.out.cell (i:=3) (v:= .slice B T.past.length d) rfl
    obtain⟨⟨ha0,ha1,ha2,ha3,ha4,ha5,ha6,ha7⟩,⟨hb2,hb3⟩,⟨hb4,hb5⟩,⟨hb6,hb7⟩,HOUT,HFIN⟩:=j5 (t:=t) (q:=q) HT.out HBE.out HZE.out
    go_wp2_with (go_at_call 106;refine HCW.out.mono ?_;rintro e w2 ⟨rfl,rfl⟩)
    refine bodyPost_ret_by (bS (b:=w.heap.size+1) rfl rfl rfl HOUT) rfl ⟨A,_,c,B,_,d,by rw[HTQ.out.1,HTQ.out.2];rfl,HFIN.out⟩
   |false=>
    have hlc:=HR.out.hc
    cases z4 with
    |true=>
     obtain⟨hXT,rfl⟩:=HXR.out.1 rfl
     obtain rfl:T=X:=hXT.symm
     clear hXT hlen
     go_wp2_with (go_at_call 106;refine HCW.out.mono ?_;rintro e w2 ⟨rfl,rfl⟩)
     go_quiet ((go_at_call 118;exact oV (pX H4 Al l.length cl _ HR.out.hn HR.out.hl HR.out.hc HR.out.hm (HR.out.drewN _).hA)))
     have HXN:=zH (HXE.out.below (aE (Below.refl w1.heap.size w1) nq))
     have HZN:=zH (HZE.out.below (aE (Below.refl w1.heap.size w1) nq))
     have HBN:=zH (aE HBE.out nq)
     obtain⟨w5,hw5⟩:∃W,w1.drewN nq=W:=⟨_,rfl⟩
     rw[hw5] at HXN HZN HBN⊢
     clear hw5 hc0 hc1 hc2 HCW HCO HXE HZE HBE
     have hc0:=HXN.out.cell (i:=0) (v:= .int .i64 q) rfl
     have hc1:=HXN.out.cell (i:=1) (v:= .slice A T.now.op.length c) rfl
     have hc2:=HXN.out.cell (i:=2) (v:= .int .i64 t) rfl
     have hc3:=HXN.out.cell (i:=3) (v:= .slice B T.past.length d) rfl
     obtain⟨⟨ha0,ha1,ha2,ha3,ha4,ha5,ha6,ha7⟩,⟨hb2,hb3⟩,⟨hb4,hb5⟩,⟨hb6,hb7⟩,HOUT,HFIN⟩:=j5 (t:=t) (q:=q) HT.out HBN.out HZN.out
     go_wp2_with fail
     refine bodyPost_ret_by (bS (b:=w.heap.size+1) rfl rfl rfl HOUT) rfl ⟨A,_,c,B,_,d,by rw[HTQ.out.1,HTQ.out.2];rfl,HFIN.out⟩
    |false=>
     cases z5 with
     |false=>
      obtain⟨hXT,rfl⟩:=HXR.out.1 rfl
      obtain rfl:T=X:=hXT.symm
      clear hXT hlen
      go_wp2_with (go_at_call 106;refine HCW.out.mono ?_;rintro e w2 ⟨rfl,rfl⟩)
      go_quiet (first|(go_at_call 118;exact oV (pX H4 Al l.length cl _ HR.out.hn HR.out.hl HR.out.hc HR.out.hm (HR.out.drewN _).hA))|(go_at_call 120;exact oV (DT HG Al l.length cl _ HR.out.hn HR.out.hl HR.out.hc HR.out.hm (HR.out.drewN _).hA))|(go_at_call 119;exact AO (EM H5 hq0 (by omega) hg0 (by omega) _)))
      have HXN:=zH (HXE.out.below (aE (Below.refl w1.heap.size w1) nq))
      have HZN:=zH (HZE.out.below (aE (Below.refl w1.heap.size w1) nq))
      have HBN:=zH (aE HBE.out nq)
      obtain⟨w5,hw5⟩:∃W,w1.drewN nq=W:=⟨_,rfl⟩
      rw[hw5] at HXN HZN HBN⊢
      clear hw5 hc0 hc1 hc2 HCW HCO HXE HZE HBE
      have hc0:=HXN.out.cell (i:=0) (v:= .int .i64 q) rfl
      have hc1:=HXN.out.cell (i:=1) (v:= .slice A T.now.op.length c) rfl
      have hc2:=HXN.out.cell (i:=2) (v:= .int .i64 t) rfl
      have hc3:=HXN.out.cell (i:=3) (v:= .slice B T.past.length d) rfl
      obtain⟨⟨ha0,ha1,ha2,ha3,ha4,ha5,ha6,ha7⟩,⟨hb2,hb3⟩,⟨hb4,hb5⟩,⟨hb6,hb7⟩,HOUT,HFIN⟩:=j5 (t:=t) (q:=q) HT.out HBN.out HZN.out
      go_wp2_with fail
      refine bodyPost_ret_by (bS (b:=w.heap.size+1) rfl rfl rfl HOUT) rfl ⟨A,_,c,B,_,d,by rw[HTQ.out.1,HTQ.out.2];rfl,HFIN.out⟩
     |true=>
      obtain⟨hXT,rfl⟩:=HXR.out.2 rfl
      have HXT:=zH hXT
      clear hXT hlen
      go_wp2_with (go_at_call 106;refine HCW.out.mono ?_;rintro e w2 ⟨rfl,rfl⟩)
      go_quiet (first|(go_at_call 118;exact oV (pX H4 Al l.length cl _ HR.out.hn HR.out.hl HR.out.hc HR.out.hm (HR.out.drewN _).hA))|(go_at_call 120;exact oV (DT HG Al l.length cl _ HR.out.hn HR.out.hl HR.out.hc HR.out.hm (HR.out.drewN _).hA))|(go_at_call 119;exact AO (EM H5 hq0 (by omega) hg0 (by omega) _)))
      have HXN:=zH (HXE.out.below (aE (Below.refl w1.heap.size w1) nq))
      have HZN:=zH (HZE.out.below (aE (Below.refl w1.heap.size w1) nq))
      have HBN:=zH (aE HBE.out nq)
      obtain⟨w5,hw5⟩:∃W,w1.drewN nq=W:=⟨_,rfl⟩
      rw[hw5] at HXN HZN HBN⊢
      clear hw5 hc0 hc1 hc2 HCW HCO HXE HZE HBE
      have hc0:=HXN.out.cell (i:=0) (v:= .int .i64 q) rfl
      have hc1:=HXN.out.cell (i:=1) (v:= .slice A T.now.op.length c) rfl
      have hc2:=HXN.out.cell (i:=2) (v:= .int .i64 t) rfl
      have hc3:=HXN.out.cell (i:=3) (v:= .slice B T.past.length d) rfl
      go_upto_region 6 with fail
      have HC1:=zH (JF (c:=c) w5.drew rfl (by omega) (HT.out.hA _ (HT.out.fw _ _ HW.out (aE HBN.out 1))))
      have HC2:=zH (JF (c:=c) (w5.drew.alloc (.cells #[.string text] 9)) rfl (by omega) (HT.out.hA _ (HT.out.fw _ _ HW.out ((aE HBN.out 1).alloc HBN.out.size _))))
      have HPL:=zH hpl
      have HLN:Hid (T.now.op.length+1≤4194304):=by unfold Hid;omega
      clear hpl
      refine wp_region_held_drew (S:=(fun w' =>w'.cell? ⟨w.heap.size,0,none⟩=some (.int .i64 q)∧w'.cell? ⟨w.heap.size,1,none⟩=some (.slice A T.now.op.length c)∧w'.cell? ⟨w.heap.size,2,none⟩=some (.int .i64 t)∧w'.cell? ⟨w.heap.size,3,none⟩=some (.slice B T.past.length d))) (by kernel_rfl) ?_ (fun hHeld=> ?_)
      ·exact⟨hc0,hc1,hc2,hc3⟩
      refine zT 0 (h:=?_)
      try simp only[Act.put,List.setIfInBounds_toArray]
      refine zT 1 (h:=?_)
      try simp only[Act.put]
      refine zT 2 (h:=?_)
      try simp only[Act.put]
      refine zT 3 (h:=?_)
      try simp only[Act.put]
      refine zT 4 (h:=?_)
      try simp only[Act.put]
      refine zT 5 (h:=?_)
      try simp only[Act.put]
      refine zT 6 (h:=?_)
      try simp only[Act.put]
      refine zT 8 (h:=?_)
      try simp only[Act.put]
      refine wpAnyH_ready (rs:=[7,9]) (by kernel_rfl) (by simp) ?_
      refine AllReadyH.cons rfl (fun K hK=> ?_) ?_
      ·(go_simp;(first|(go_at_call 121;(with_reducible refine HC1.out.mono ?_);rintro e w6 ⟨v6,rfl,ho,hb⟩;have HF1:=zH (OU (text:=text) ho hb);have HK1:=zH (nS (HXN.out.drew.below hb));clear ho hb)|(go_at_call 121;refine HC2.out.mono ?_;rintro e w6 ⟨v6,rfl,ho,hb⟩;have HF2:=zH (O8 ho hb);have HO2:=zH ho;have HK1:=zH (nS ((HXN.out.drew.alloc (.cells #[.string text] 9)).below hb));clear ho hb));(try go_simp))
       refine hK.out _ _ ?_ (fun hHeld=> ?_)
       ·(first|exact HK4.out|exact HK3.out|exact HK2.out|exact HK1.out|exact⟨hc0,hc1,hc2,hc3⟩|go_keep)
       clear hK K
       try simp only[Act.put,zS]
       refine wpAnyH_ready (rs:=[9]) (by kernel_rfl) (by simp) ?_
       refine AllReadyH.cons rfl (fun K hK=> ?_) ?_
       ·go_simp
        refine hK.out _ _ ?_ (fun hHeld=> ?_)
        ·(first|exact HK4.out|exact HK3.out|exact HK2.out|exact HK1.out|exact⟨hc0,hc1,hc2,hc3⟩|go_keep)
        clear hK K
        try simp only[Act.put,zS]
        refine wpAnyH_ready (rs:=[10]) (by kernel_rfl) (by simp) ?_
        refine AllReadyH.cons rfl (fun K hK=> ?_) ?_
        ·(first|(refine d0 rfl _ _ rfl w5.drew.heap.size v6 T.now.op [text] rfl HF1.out.1 (some ⟨w6.heap.size,0,none⟩) 1 1 rfl rfl (Nat.le_refl _) HF1.out.2.1 HLN.out HF1.out.2.2.1 ?_;intro v7 w7 hr hg;obtain⟨A2,n2,c2,rfl,hq⟩:=xP HF1.out.1 HF1.out.2.2.2 (Nat.le_refl _) hr hg;have HGO:=zH (tL HTQ.out HXT.out HT.out HW.out HPL.out HXN.out HZN.out HBN.out hq);have HK2:=zH (nS (HXN.out.below hq.2.2.2.2));clear hr hg hq;simp only[List.getElem_toArray,List.getElem_cons_succ,List.getElem_cons_zero])|(refine d0 rfl _ _ rfl (w5.drew.alloc (.cells #[.string text] 9)).heap.size v6 T.now.op [text] rfl HO2.out (some ⟨w5.heap.size,0,none⟩) 1 1 rfl rfl (Nat.le_refl _) HF2.out.1 HLN.out HF2.out.2.1 ?_;intro v7 w7 hr hg;obtain⟨A2,n2,c2,rfl,hq⟩:=xP HO2.out HF2.out.2.2 (tH w5.drew _) hr hg;have HGO:=zH (tL HTQ.out HXT.out HT.out HW.out HPL.out HXN.out HZN.out HBN.out hq);have HK2:=zH (nS (HXN.out.below hq.2.2.2.2));clear hr hg hq;simp only[List.getElem_toArray,List.getElem_cons_succ,List.getElem_cons_zero]))
         refine hK.out _ _ ?_ (fun hHeld=> ?_)
         ·(first|exact HK4.out|exact HK3.out|exact HK2.out|exact HK1.out|exact⟨hc0,hc1,hc2,hc3⟩|go_keep)
         clear hK K
         try simp only[Act.put,zS]
         refine zT 11 (h:=?_)
         try simp only[Act.put,List.setIfInBounds_toArray]
         refine wpAnyH_ready (rs:=[12]) (by kernel_rfl) (by simp) ?_
         refine AllReadyH.cons rfl (fun K hK=> ?_) ?_
         ·(go_simp;(go_at_call 116;refine HGO.out.mono ?_;rintro e w8 ⟨B',m',d',rfl,hk8,hks,hf,HOUT,HFIN⟩;obtain⟨⟨ha0,ha1,ha2,ha3,ha4,ha5,ha6,ha7⟩,⟨hb2,hb3⟩,⟨hb4,hb5⟩,⟨hb6,hb7⟩⟩:=hf.out;have HK3:=zH hk8;have HK4:=zH hks;clear hk8 hks hf);(try go_simp))
          refine hK.out _ _ ?_ (fun hHeld=> ?_)
          ·(first|exact HK4.out|exact HK3.out|exact HK2.out|exact HK1.out|exact⟨hc0,hc1,hc2,hc3⟩|go_keep)
          clear hK K
          try simp only[Act.put,zS]
          refine wpAnyH_ready (rs:=[13]) (by kernel_rfl) (by simp) ?_
          refine AllReadyH.cons rfl (fun K hK=> ?_) ?_
          ·go_simp
           refine hK.out _ _ ?_ (fun hHeld=> ?_)
           ·(first|exact HK4.out|exact HK3.out|exact HK2.out|exact HK1.out|exact⟨hc0,hc1,hc2,hc3⟩|go_keep)
           clear hK K
           try simp only[Act.put]
           refine wpAnyH_ready (rs:=[14]) (by kernel_rfl) (by simp) ?_
           refine AllReadyH.cons rfl (fun K hK=> ?_) ?_
           ·go_simp
            refine hK.out _ _ ?_ (fun hHeld=> ?_)
            ·(first|exact HK4.out|exact HK3.out|exact HK2.out|exact HK1.out|exact⟨hc0,hc1,hc2,hc3⟩|go_keep)
            clear hK K
            try simp only[Act.put,zS]
            refine wpAnyH_done (by kernel_rfl) ?_ _
            go_wp2_with fail
            refine bodyPost_ret_by (bS (b:=w.heap.size+1) rfl rfl rfl HOUT) rfl ⟨_,_,_,_,_,_,by rw[show X.things=t from(by rw[HXT.out];exact HTQ.out.1),show X.now.known=q from(by rw[HXT.out];exact HTQ.out.2)];rfl,HFIN.out⟩
           exact AllReadyH.nil
          exact AllReadyH.nil
         exact AllReadyH.nil
        exact AllReadyH.nil
       exact AllReadyH.nil
      refine AllReadyH.cons rfl (fun K hK=> ?_) ?_
      ·go_simp
       refine hK.out _ _ ?_ (fun hHeld=> ?_)
       ·(first|exact HK4.out|exact HK3.out|exact HK2.out|exact HK1.out|exact⟨hc0,hc1,hc2,hc3⟩|go_keep)
       clear hK K
       try simp only[Act.put,zS]
       refine wpAnyH_ready (rs:=[7]) (by kernel_rfl) (by simp) ?_
       refine AllReadyH.cons rfl (fun K hK=> ?_) ?_
       ·(go_simp;(first|(go_at_call 121;(with_reducible refine HC1.out.mono ?_);rintro e w6 ⟨v6,rfl,ho,hb⟩;have HF1:=zH (OU (text:=text) ho hb);have HK1:=zH (nS (HXN.out.drew.below hb));clear ho hb)|(go_at_call 121;refine HC2.out.mono ?_;rintro e w6 ⟨v6,rfl,ho,hb⟩;have HF2:=zH (O8 ho hb);have HO2:=zH ho;have HK1:=zH (nS ((HXN.out.drew.alloc (.cells #[.string text] 9)).below hb));clear ho hb));(try go_simp))
        refine hK.out _ _ ?_ (fun hHeld=> ?_)
        ·(first|exact HK4.out|exact HK3.out|exact HK2.out|exact HK1.out|exact⟨hc0,hc1,hc2,hc3⟩|go_keep)
        clear hK K
        try simp only[Act.put,zS]
        refine wpAnyH_ready (rs:=[10]) (by kernel_rfl) (by simp) ?_
        refine AllReadyH.cons rfl (fun K hK=> ?_) ?_
        ·(first|(refine d0 rfl _ _ rfl w5.drew.heap.size v6 T.now.op [text] rfl HF1.out.1 (some ⟨w6.heap.size,0,none⟩) 1 1 rfl rfl (Nat.le_refl _) HF1.out.2.1 HLN.out HF1.out.2.2.1 ?_;intro v7 w7 hr hg;obtain⟨A2,n2,c2,rfl,hq⟩:=xP HF1.out.1 HF1.out.2.2.2 (Nat.le_refl _) hr hg;have HGO:=zH (tL HTQ.out HXT.out HT.out HW.out HPL.out HXN.out HZN.out HBN.out hq);have HK2:=zH (nS (HXN.out.below hq.2.2.2.2));clear hr hg hq;simp only[List.getElem_toArray,List.getElem_cons_succ,List.getElem_cons_zero])|(refine d0 rfl _ _ rfl (w5.drew.alloc (.cells #[.string text] 9)).heap.size v6 T.now.op [text] rfl HO2.out (some ⟨w5.heap.size,0,none⟩) 1 1 rfl rfl (Nat.le_refl _) HF2.out.1 HLN.out HF2.out.2.1 ?_;intro v7 w7 hr hg;obtain⟨A2,n2,c2,rfl,hq⟩:=xP HO2.out HF2.out.2.2 (tH w5.drew _) hr hg;have HGO:=zH (tL HTQ.out HXT.out HT.out HW.out HPL.out HXN.out HZN.out HBN.out hq);have HK2:=zH (nS (HXN.out.below hq.2.2.2.2));clear hr hg hq;simp only[List.getElem_toArray,List.getElem_cons_succ,List.getElem_cons_zero]))
         refine hK.out _ _ ?_ (fun hHeld=> ?_)
         ·(first|exact HK4.out|exact HK3.out|exact HK2.out|exact HK1.out|exact⟨hc0,hc1,hc2,hc3⟩|go_keep)
         clear hK K
         try simp only[Act.put,zS]
         refine zT 11 (h:=?_)
         try simp only[Act.put,List.setIfInBounds_toArray]
         refine wpAnyH_ready (rs:=[12]) (by kernel_rfl) (by simp) ?_
         refine AllReadyH.cons rfl (fun K hK=> ?_) ?_
         ·(go_simp;(go_at_call 116;refine HGO.out.mono ?_;rintro e w8 ⟨B',m',d',rfl,hk8,hks,hf,HOUT,HFIN⟩;obtain⟨⟨ha0,ha1,ha2,ha3,ha4,ha5,ha6,ha7⟩,⟨hb2,hb3⟩,⟨hb4,hb5⟩,⟨hb6,hb7⟩⟩:=hf.out;have HK3:=zH hk8;have HK4:=zH hks;clear hk8 hks hf);(try go_simp))
          refine hK.out _ _ ?_ (fun hHeld=> ?_)
          ·(first|exact HK4.out|exact HK3.out|exact HK2.out|exact HK1.out|exact⟨hc0,hc1,hc2,hc3⟩|go_keep)
          clear hK K
          try simp only[Act.put,zS]
          refine wpAnyH_ready (rs:=[13]) (by kernel_rfl) (by simp) ?_
          refine AllReadyH.cons rfl (fun K hK=> ?_) ?_
          ·go_simp
           refine hK.out _ _ ?_ (fun hHeld=> ?_)
           ·(first|exact HK4.out|exact HK3.out|exact HK2.out|exact HK1.out|exact⟨hc0,hc1,hc2,hc3⟩|go_keep)
           clear hK K
           try simp only[Act.put]
           refine wpAnyH_ready (rs:=[14]) (by kernel_rfl) (by simp) ?_
           refine AllReadyH.cons rfl (fun K hK=> ?_) ?_
           ·go_simp
            refine hK.out _ _ ?_ (fun hHeld=> ?_)
            ·(first|exact HK4.out|exact HK3.out|exact HK2.out|exact HK1.out|exact⟨hc0,hc1,hc2,hc3⟩|go_keep)
            clear hK K
            try simp only[Act.put,zS]
            refine wpAnyH_done (by kernel_rfl) ?_ _
            go_wp2_with fail
            refine bodyPost_ret_by (bS (b:=w.heap.size+1) rfl rfl rfl HOUT) rfl ⟨_,_,_,_,_,_,by rw[show X.things=t from(by rw[HXT.out];exact HTQ.out.1),show X.now.known=q from(by rw[HXT.out];exact HTQ.out.2)];rfl,HFIN.out⟩
           exact AllReadyH.nil
          exact AllReadyH.nil
         exact AllReadyH.nil
        exact AllReadyH.nil
       exact AllReadyH.nil
      exact AllReadyH.nil
theorem zJ{T:aL}(k:Int)(s:ByteArray)(hok:dP T=true):(gJ T k s=none∧(dN T k s).1=T∧(dN T k s).2=false)∨(gJ T k s=some (dN T k s).1∧(dN T k s).2=true):=by
 cases h:gJ T k s with
 |none=>rw[sZ hok h];exact .inl ⟨rfl,rfl,rfl⟩
 |some X=>rw[rJ hok h];exact .inr ⟨rfl,rfl⟩
theorem UI{T:aL}{k:Int}(s:ByteArray)(h0:k≠0)(h1:k≠1)(h2:k≠2):gJ T k s=none:=by
 unfold gJ cX
 rw[if_neg h2,if_neg h0,if_neg h1]
theorem PA(w:World)(a b c d k x e f g h:Value):
  Hid (aD (((w.alloc (.cells #[a,b,c,d] 79)).alloc (.cells #[k,x] 41)).alloc (.cells #[e,f,g,h] 79)) w.heap.size 79 [a,b,c,d])∧
  Hid (aD (((w.alloc (.cells #[a,b,c,d] 79)).alloc (.cells #[k,x] 41)).alloc (.cells #[e,f,g,h] 79)) (w.heap.size+1) 41 [k,x])∧
  Hid (aD (((w.alloc (.cells #[a,b,c,d] 79)).alloc (.cells #[k,x] 41)).alloc (.cells #[e,f,g,h] 79)) (w.heap.size+2) 79 [e,f,g,h])∧
  Hid (Below w.heap.size w (((w.alloc (.cells #[a,b,c,d] 79)).alloc (.cells #[k,x] 41)).alloc (.cells #[e,f,g,h] 79))):=by
 refine⟨((aD.new w _ [a,b,c,d]).alloc _).alloc _,?_,?_,(((Below.refl _ _).alloc (Nat.le_refl _) _).alloc (by rw[World.size_alloc];omega) _).alloc (by rw[World.size_alloc,World.size_alloc];omega) _⟩
 ·have:=(aD.new (w.alloc (.cells #[a,b,c,d] 79)) 41 [k,x]).alloc (.cells #[e,f,g,h] 79)
  rw[World.size_alloc] at this;exact this
 ·have:=aD.new ((w.alloc (.cells #[a,b,c,d] 79)).alloc (.cells #[k,x] 41)) 79 [e,f,g,h]
  rw[World.size_alloc,World.size_alloc] at this;exact this
theorem XW(T:aL)(A B:Option Addr)(n c m d:Nat)(kind:Int)(text:ByteArray)(R:World→Prop)(w:World)(hT:qL R T A n c B m d)(hbw:R w)(hok:dP T=true)(hx:text.size≤1048576):
  Calls Tryz.prog 54 #[.agg #[.int .i64 T.now.known,.slice A n c,.int .i64 T.things,.slice B m d],.agg #[.int .i64 kind,.string text]] w (qB (dN T kind text).1 (dN T kind text).2 R w):=by
 have hway:=zJ kind text hok
 obtain⟨X,hX⟩:∃X,(dN T kind text).1=X:=⟨_,rfl⟩
 obtain⟨r,hr⟩:∃r,(dN T kind text).2=r:=⟨_,rfl⟩
 rw[hX,hr] at hway⊢
 have hpl:T.past.length≤1048576:=(lQ hok).past
 have HT:=zH hT
 have HW:=zH hbw
 have HCT:Hid (kind=0→∀W,R W→Calls Tryz.prog 92 #[.agg #[.int .i64 T.now.known,.slice A n c,.int .i64 T.things,.slice B m d],.string text] W (qB X r R W)):=fun e W hb=>by
  subst e;exact WW T A B n c m d text R W hT hb hok hx X r hway
 have HCA:Hid (kind=1→∀W,R W→Calls Tryz.prog 93 #[.agg #[.int .i64 T.now.known,.slice A n c,.int .i64 T.things,.slice B m d],.string text] W (qB X r R W)):=fun e W hb=>by
  subst e;exact YA T A B n c m d text R W hT hb hok hx X r hway
 have HCB:Hid (kind=2→∀W,R W→Calls Tryz.prog 94 #[.agg #[.int .i64 T.now.known,.slice A n c,.int .i64 T.things,.slice B m d],.string text] W (qB X r R W)):=fun e W hb=>by
  subst e;exact XN T A B n c m d text R W hT hb hpl X r hway
 have HNO:Hid (kind≠0→kind≠1→kind≠2→X=T∧r=false):=fun h0 h1 h2=>by
  rw[UI text h0 h1 h2] at hway
  rcases hway with⟨_,h⟩|⟨h,_⟩
  ·exact h
  ·cases h
 obtain⟨t,ht⟩:∃t,T.things=t:=⟨_,rfl⟩
 obtain⟨q,hq⟩:∃q,T.now.known=q:=⟨_,rfl⟩
 have HTQ:Hid (T.things=t∧T.now.known=q):=⟨ht,hq⟩
 obtain⟨HX,HY,HZ,HB⟩:=PA w (.int .i64 q) (.slice A n c) (.int .i64 t) (.slice B m d) (.int .i64 kind) (.string text) (.int .i64 0) (.slice none 0 0) (.int .i64 0) (.slice none 0 0)
 rw[ht,hq] at HCT HCA HCB⊢
 clear hway hX hr hpl hT hbw hok hx ht hq
 go_enter Tryz.func54,Tryz.ntmps54
 go_upto_region 1 with fail
 obtain⟨W0,hW0⟩:∃W,((w.alloc (.cells #[.int .i64 q,.slice A n c,.int .i64 t,.slice B m d] 79)).alloc (.cells #[.int .i64 kind,.string text] 41)).alloc (.cells #[.int .i64 0,.slice none 0 0,.int .i64 0,.slice none 0 0] 79)=W:=⟨_,rfl⟩
 rw[hW0] at HX HY HZ HB⊢
 clear hW0
 have hc0:=HX.out.cell (i:=0) (v:= .int .i64 q) rfl
 have hc1:=HX.out.cell (i:=1) (v:= .slice A n c) rfl
 have hc2:=HX.out.cell (i:=2) (v:= .int .i64 t) rfl
 have hc3:=HX.out.cell (i:=3) (v:= .slice B m d) rfl
 have hy0:=HY.out.cell (i:=0) (v:= .int .i64 kind) rfl
 have hy1:=HY.out.cell (i:=1) (v:= .string text) rfl
 by_cases h0:kind=0
 ·subst h0
  go_wp2_with fail
  refine(HCT.out trivial _ (HT.out.fw _ _ HW.out HB.out)).mono ?_
  rintro e w1 ⟨A',n',c',B',m',d',rfl,hat,hb⟩
  have HZ1:=zH (HZ.out.below hb)
  have HB1:=zH (aA HB.out hb)
  have hzl:w.heap.size+2<W0.heap.size:=HZ.out.lt
  obtain⟨⟨ha0,ha1,ha2,ha3,ha4,ha5,ha6,ha7⟩,⟨hb2,hb3⟩,⟨hb4,hb5⟩,⟨hb6,hb7⟩,HOUT⟩:=HZ1.out.store4 (.int .i64 X.now.known) (.slice A' n' c') (.int .i64 X.things) (.slice B' m' d')
  have HBE:=zH (bG HB1.out (show w.heap.size≤w.heap.size+2 by omega) (.int .i64 X.now.known) (.slice A' n' c') (.int .i64 X.things) (.slice B' m' d'))
  have HFT:Hid (∀w2,R w2→aX w.heap.size ((((w1.setCell ⟨w.heap.size+2,0,none⟩ (.int .i64 X.now.known)).setCell ⟨w.heap.size+2,1,none⟩ (.slice A' n' c')).setCell ⟨w.heap.size+2,2,none⟩ (.int .i64 X.things)).setCell ⟨w.heap.size+2,3,none⟩ (.slice B' m' d')) w2→bN w2 X A' n' c' B' m' d'):=fun w2 g1 g2=>hat w2 g1 ((jF hzl (.int .i64 X.now.known) (.slice A' n' c') (.int .i64 X.things) (.slice B' m' d')).trans g2 HB.out.size)
  clear hat hb
  go_wp2_with fail
  refine bodyPost_ret_by (bS (b:=w.heap.size+2) rfl rfl rfl HOUT) rfl ⟨A',n',c',B',m',d',rfl,HFT.out,HBE.out⟩
 by_cases h1:kind=1
 ·subst h1
  clear h0
  go_wp2_with fail
  refine(HCA.out trivial _ (HT.out.fw _ _ HW.out HB.out)).mono ?_
  rintro e w1 ⟨A',n',c',B',m',d',rfl,hat,hb⟩
  have HZ1:=zH (HZ.out.below hb)
  have HB1:=zH (aA HB.out hb)
  have hzl:w.heap.size+2<W0.heap.size:=HZ.out.lt
  obtain⟨⟨ha0,ha1,ha2,ha3,ha4,ha5,ha6,ha7⟩,⟨hb2,hb3⟩,⟨hb4,hb5⟩,⟨hb6,hb7⟩,HOUT⟩:=HZ1.out.store4 (.int .i64 X.now.known) (.slice A' n' c') (.int .i64 X.things) (.slice B' m' d')
  have HBE:=zH (bG HB1.out (show w.heap.size≤w.heap.size+2 by omega) (.int .i64 X.now.known) (.slice A' n' c') (.int .i64 X.things) (.slice B' m' d'))
  have HFT:Hid (∀w2,R w2→aX w.heap.size ((((w1.setCell ⟨w.heap.size+2,0,none⟩ (.int .i64 X.now.known)).setCell ⟨w.heap.size+2,1,none⟩ (.slice A' n' c')).setCell ⟨w.heap.size+2,2,none⟩ (.int .i64 X.things)).setCell ⟨w.heap.size+2,3,none⟩ (.slice B' m' d')) w2→bN w2 X A' n' c' B' m' d'):=fun w2 g1 g2=>hat w2 g1 ((jF hzl (.int .i64 X.now.known) (.slice A' n' c') (.int .i64 X.things) (.slice B' m' d')).trans g2 HB.out.size)
  clear hat hb
  go_wp2_with fail
  refine bodyPost_ret_by (bS (b:=w.heap.size+2) rfl rfl rfl HOUT) rfl ⟨A',n',c',B',m',d',rfl,HFT.out,HBE.out⟩
 by_cases h2:kind=2
 ·subst h2
  clear h0 h1
  go_wp2_with fail
  refine(HCB.out trivial _ (HT.out.fw _ _ HW.out HB.out)).mono ?_
  rintro e w1 ⟨A',n',c',B',m',d',rfl,hat,hb⟩
  have HZ1:=zH (HZ.out.below hb)
  have HB1:=zH (aA HB.out hb)
  have hzl:w.heap.size+2<W0.heap.size:=HZ.out.lt
  obtain⟨⟨ha0,ha1,ha2,ha3,ha4,ha5,ha6,ha7⟩,⟨hb2,hb3⟩,⟨hb4,hb5⟩,⟨hb6,hb7⟩,HOUT⟩:=HZ1.out.store4 (.int .i64 X.now.known) (.slice A' n' c') (.int .i64 X.things) (.slice B' m' d')
  have HBE:=zH (bG HB1.out (show w.heap.size≤w.heap.size+2 by omega) (.int .i64 X.now.known) (.slice A' n' c') (.int .i64 X.things) (.slice B' m' d'))
  have HFT:Hid (∀w2,R w2→aX w.heap.size ((((w1.setCell ⟨w.heap.size+2,0,none⟩ (.int .i64 X.now.known)).setCell ⟨w.heap.size+2,1,none⟩ (.slice A' n' c')).setCell ⟨w.heap.size+2,2,none⟩ (.int .i64 X.things)).setCell ⟨w.heap.size+2,3,none⟩ (.slice B' m' d')) w2→bN w2 X A' n' c' B' m' d'):=fun w2 g1 g2=>hat w2 g1 ((jF hzl (.int .i64 X.now.known) (.slice A' n' c') (.int .i64 X.things) (.slice B' m' d')).trans g2 HB.out.size)
  clear hat hb
  go_wp2_with fail
  refine bodyPost_ret_by (bS (b:=w.heap.size+2) rfl rfl rfl HOUT) rfl ⟨A',n',c',B',m',d',rfl,HFT.out,HBE.out⟩
 ·obtain⟨hXT,rfl⟩:=HNO.out h0 h1 h2
  obtain rfl:T=X:=hXT.symm
  have h0' :(kind==0)=false:=beq_eq_false_iff_ne.2 h0
  have h1' :(kind==1)=false:=beq_eq_false_iff_ne.2 h1
  have h2' :(kind==2)=false:=beq_eq_false_iff_ne.2 h2
  clear h0 h1 h2 hXT
  obtain⟨⟨ha0,ha1,ha2,ha3,ha4,ha5,ha6,ha7⟩,⟨hb2,hb3⟩,⟨hb4,hb5⟩,⟨hb6,hb7⟩,HOUT⟩:=HZ.out.store4 (.int .i64 q) (.slice A n c) (.int .i64 t) (.slice B m d)
  have HBE:=zH (bG HB.out (show w.heap.size≤w.heap.size+2 by omega) (.int .i64 q) (.slice A n c) (.int .i64 t) (.slice B m d))
  go_wp2_with fail
  refine bodyPost_ret_by (bS (b:=w.heap.size+2) rfl rfl rfl HOUT) rfl ⟨A,_,c,B,_,d,by rw[HTQ.out.1,HTQ.out.2];rfl,fun _ h _=>HT.out.at_ h,HBE.out⟩
theorem sH{w w' :World}{g lo:Nat}(hg:w.grownBy w' (some g))(h:g<lo):aX lo w w' :=⟨hg.size,fun b h1 h2=>hg.block b h2 (by simp only[ne_eq,Option.some.injEq];omega)⟩
theorem f9.keep{w w' :World}{lo:Nat}{T:aL}{A B:Option Addr}{n c m d:Nat}(h:f9 w lo T A n c B m d)(hk:aX lo w w'):f9 w' lo T A n c B m d:=⟨h.1.keep hk,h.2.1.keep hk,h.2.2⟩
theorem f9.base{w:World}{lo lo2:Nat}{T:aL}{A B:Option Addr}{n c m d:Nat}(h:f9 w lo T A n c B m d)(hl:lo2≤lo):f9 w lo2 T A n c B m d:=⟨h.1.base hl,h.2.1.base hl,h.2.2.1,fun b hb=>Nat.le_trans hl (h.2.2.2 b hb)⟩
theorem f9.new{w:World}{lo:Nat}(t k:Int):f9 w lo ⟨t,⟨k,[]⟩,[]⟩ none 0 0 none 0 0:=
 ⟨fun w' _=>⟨rfl,Nat.le_refl _,Nat.zero_le _,a7.nil _ _,rfl,Nat.le_refl _,Nat.zero_le _,b6.nil _ _⟩,aK.nil _ _,(fun a b h=>by cases h),fun b h=>by cases h⟩
structure TV (w:World) (h:Nat) (T:aL) (A:Option Addr) (n c:Nat) (B:Option Addr) (m d:Nat):Prop where
 box:aD w h 33 [.int .i64 T.things,.int .i64 T.now.known,.slice A n c,.slice B m d]
 own:f9 w (h+1) T A n c B m d
theorem TV.below{w w' :World}{h:Nat}{T:aL}{A B:Option Addr}{n c m d:Nat}(hv:TV w h T A n c B m d)(hb:Below w.heap.size w w'):TV w' h T A n c B m d:=⟨hv.box.below hb,hv.own.keep (aX.of_below hb)⟩
theorem TV.grown{w w' :World}{h g:Nat}{T:aL}{A B:Option Addr}{n c m d:Nat}(hv:TV w h T A n c B m d)(hg:w.grownBy w' (some g))(hlt:g<h):TV w' h T A n c B m d:=
 ⟨hv.box.grownO hg (fun k e=>by cases e;omega),hv.own.keep (sH hg (by omega))⟩
structure DX (wx:World) (h:Nat) (X:aL) (A:Option Addr) (n c:Nat) (B:Option Addr) (m d:Nat):Prop where
 x:aD wx h 33 [.int .i64 X.things,.int .i64 X.now.known,.slice A n c,.slice B m d]
 t:bN wx X A n c B m d
theorem DX.below{wx wy:World}{h:Nat}{X:aL}{A B:Option Addr}{n c m d:Nat}(hd:DX wx h X A n c B m d)(hb:Below wx.heap.size wx wy):DX wy h X A n c B m d:=⟨hd.x.below hb,hd.t.below hb⟩
theorem DX.new{wx:World}{X:aL}{A B:Option Addr}{n c m d:Nat}(ht:bN wx X A n c B m d):DX (wx.alloc (.cells #[.int .i64 X.things,.int .i64 X.now.known,.slice A n c,.slice B m d] 33)) wx.heap.size X A n c B m d:=⟨aD.new wx _ [.int .i64 X.things,.int .i64 X.now.known,.slice A n c,.slice B m d],ht.below ((Below.refl _ _).alloc (Nat.le_refl _) _)⟩
theorem DX.cells{wx:World}{h:Nat}{X:aL}{A B:Option Addr}{n c m d:Nat}(hd:DX wx h X A n c B m d):wx.cell? ⟨h,0,none⟩=some (.int .i64 X.things)∧wx.cell? ⟨h,1,none⟩=some (.int .i64 X.now.known)∧wx.cell? ⟨h,2,none⟩=some (.slice A n c)∧wx.cell? ⟨h,3,none⟩=some (.slice B m d):=⟨hd.x.cell rfl,hd.x.cell rfl,hd.x.cell rfl,hd.x.cell rfl⟩
theorem mE.below{w w' :World}{lo:Nat}{o p:Value}{vs:List (Int×Value)}{os:List ByteArray}{xs:List (St ByteArray)}(h:mE w lo o p vs os xs)(hb:Below w.heap.size w w'):mE w' lo o p vs os xs:=⟨h.1.below hb,h.2.1.below hb,h.2.2⟩
theorem mE.base{w:World}{lo lo2:Nat}{o p:Value}{vs:List (Int×Value)}{os:List ByteArray}{xs:List (St ByteArray)}(h:mE w lo o p vs os xs)(hl:lo2≤lo):mE w lo2 o p vs os xs:=⟨h.1.base hl,h.2.1.base hl,h.2.2⟩
theorem mE.set4{w:World}{lo g:Nat}{o p:Value}{vs:List (Int×Value)}{os:List ByteArray}{xs:List (St ByteArray)}{T:TypeId}{cs:List Value}(h:mE w lo o p vs os xs)(hb:aD w g T cs)(hT:T≠9)(hT2:T≠30)(a b c d:Value):mE ((((w.setCell ⟨g,0,none⟩ a).setCell ⟨g,1,none⟩ b).setCell ⟨g,2,none⟩ c).setCell ⟨g,3,none⟩ d) lo o p vs os xs:=
 ⟨h.1.setBox4 hb hT a b c d,h.2.1.setBox4 hb hT hT2 a b c d,h.2.2⟩
theorem mE.at_{w:World}{lo n c m d:Nat}{A B:Option Addr}{vs:List (Int×Value)}{T:aL}(h:mE w lo (.slice A n c) (.slice B m d) vs T.now.op T.past):bN w T A n c B m d:=by
 obtain⟨A',c',B',d',e1,e2,hin⟩:=qO h.1 h.2.1
 cases e1
 cases e2
 exact hin.at_
theorem oA(W:World)(o:Obj):Below W.heap.size W (W.alloc o):=(Below.refl _ _).alloc (Nat.le_refl _) _
theorem vM(w:World)(a b c d:Value):
  Hid (aD ((w.alloc (.cells #[a,b,c,d] 33)).alloc (.cells #[.int .i64 0,.int .i64 0,.slice none 0 0,.slice none 0 0] 33)) w.heap.size 33 [a,b,c,d])∧Hid (aD ((w.alloc (.cells #[a,b,c,d] 33)).alloc (.cells #[.int .i64 0,.int .i64 0,.slice none 0 0,.slice none 0 0] 33)) (w.heap.size+1) 33 [.int .i64 0,.int .i64 0,.slice none 0 0,.slice none 0 0])∧Hid (Below w.heap.size w ((w.alloc (.cells #[a,b,c,d] 33)).alloc (.cells #[.int .i64 0,.int .i64 0,.slice none 0 0,.slice none 0 0] 33))):=by
 have h:=aD.new (w.alloc (.cells #[a,b,c,d] 33)) 33 [.int .i64 0,.int .i64 0,.slice none 0 0,.slice none 0 0]
 rw[World.size_alloc] at h
 exact⟨(aD.new w 33 [a,b,c,d]).alloc _,h,((Below.refl _ _).alloc (Nat.le_refl _) _).alloc (by rw[World.size_alloc];omega) _⟩
theorem fI.set4(h:Nat)(w:World)(a b c d:Value):fI h w ((((w.setCell ⟨h,0,none⟩ a).setCell ⟨h,1,none⟩ b).setCell ⟨h,2,none⟩ c).setCell ⟨h,3,none⟩ d):=(((fI.set h 0 w a).trans (fI.set h 1 _ b)).trans (fI.set h 2 _ c)).trans (fI.set h 3 _ d)
theorem PU{h:Nat}{w0 w8 w9:World}{X:aL}{A B:Option Addr}{n c m d:Nat}(hh:h<w0.heap.size)(hat:∀w2,fI h w0 w2→aX w0.heap.size w8 w2→bN w2 X A n c B m d)(hb:Below w0.heap.size w0 w8)(hb9:Below w8.heap.size w8 w9)(a b r q:Value):
  ∀W,fI h ((((w9.setCell ⟨h,0,none⟩ a).setCell ⟨h,1,none⟩ b).setCell ⟨h,2,none⟩ r).setCell ⟨h,3,none⟩ q) W→bN W X A n c B m d:=by
 intro W hW
 have h89:fI h w8 W:=((fI.of_below hb9).trans (fI.set4 h w9 a b r q)).trans hW
 exact hat W ((fI.of_below hb).trans h89) ⟨h89.1,fun k h1 h2=>h89.2 k h2 (by omega)⟩
theorem yN{w W:World}{A:Option Addr}{xs:List ByteArray}(h:a7 w A xs)(hle:w.heap.size≤W.heap.size)(he:∀k,k<w.heap.size→W.heap[k]? =w.heap[k]?):a7 W A xs:=h.keep hle fun b hb _ _ _=>he b hb
end Go.Proofs.YtfhjcacfchkdpaaGreatDoor
