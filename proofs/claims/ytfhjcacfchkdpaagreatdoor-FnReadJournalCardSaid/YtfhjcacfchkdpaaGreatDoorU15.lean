/-
  What the proofs of this seat's statements share (LdcM, LdcR).
-/
import Derived.Laws.EntriesVeiled
import Derived.Test.YtfhjcacfchkdpaaGreatDoorU14
set_option maxRecDepth 100000
set_option maxHeartbeats 32000000
namespace Go.Proofs.YtfhjcacfchkdpaaGreatDoor
open Go.RowKit
def bF(t:Int)(w:World)(lo:Nat)(x:Ld)(v:Value):Prop:=∀W:World,(∀b,lo≤b→b<w.heap.size→W.heap[b]? =w.heap[b]?)→mQ t x v W
theorem bF.runs{t:Int}{w:World}{lo:Nat}{x:Ld}{v:Value}(h:bF t w lo x v):mQ t x v w:=h w fun _ _ _=>rfl
theorem bF.keep{t:Int}{w w' :World}{lo:Nat}{x:Ld}{v:Value}(h:bF t w lo x v)(hs:w.heap.size≤w'.heap.size)(hk:∀b,lo≤b→b<w.heap.size→w'.heap[b]? =w.heap[b]?):bF t w' lo x v:=
 fun W hW=>h W fun b h1 h2=>(hW b h1 (by omega)).trans (hk b h1 h2)
theorem bF.below{t:Int}{w w' :World}{lo:Nat}{x:Ld}{v:Value}(h:bF t w lo x v)(hb:Below w.heap.size w w'):bF t w' lo x v:=
 h.keep hb.size fun b _ hlt=>hb.block b hlt
theorem bF.grown{t:Int}{w w' :World}{lo R:Nat}{x:Ld}{v:Value}(h:bF t w lo x v)(hg:w.grownBy w' (some R))(hR:R<lo):bF t w' lo x v:=
 h.keep hg.size fun b hl hlt=>hg.block b hlt (fun e=>by cases e;omega)
theorem bF.low{t:Int}{w:World}{lo lo' :Nat}{x:Ld}{v:Value}(hlo:lo'≤lo)(h:bF t w lo x v):bF t w lo' x v:=
 fun W hW=>h W fun b h1 h2=>hW b (by omega) h2
theorem bF.form{t:Int}{w:World}{lo:Nat}{x:Ld}{v:Value}(h:bF t w lo x v):∃g cap,v= .func (.func g) #[] cap:=by
 obtain⟨g,cap,e,_⟩:=h.runs
 exact⟨g,cap,e⟩
theorem kI{w W:World}{lo b:Nat}{T:TypeId}{v:Value}(h:Boxed w b T v)(hl:lo≤b)(hW:∀b,lo≤b→b<w.heap.size→W.heap[b]? =w.heap[b]?):Boxed W b T v:=(hW b hl h.lt).trans h
theorem bF.no{t:Int}{w:World}{lo b:Nat}{x:Ld}{v:Value}(hb:Boxed w b 170 v)(hl:lo≤b)(h:bF t w lo x v):
  bF t w lo (.no x) (.func (.func 197) #[] #[.pointer (some ⟨b,0,none⟩)]):=fun W hW=>
 ⟨_,_,rfl,enters_of Tryz.func197 (by kernel_rfl) rfl,fun s h0 ha=>SK t x b v W (kI hb hl hW) (h W hW) s h0 ha⟩
theorem bF.word{t:Int}{w:World}{lo b:Nat}{x:Ld}{so:Int}(hb:Boxed w b 3 (.int .i64 so))(hl:lo≤b)(h:∀s,0≤s→s≤aJ t→aT t x s=some (bits .and .i64 s so)):
  bF t w lo x (.func (.func 202) #[] #[.pointer (some ⟨b,0,none⟩)]):=fun W hW=>
 ⟨_,_,rfl,enters_of Tryz.func202 (by kernel_rfl) rfl,fun s h0 ha=>PY t x so b W (kI hb hl hW) h s h0 ha⟩
theorem bF.pre{t:Int}{w:World}{lo b b2:Nat}{x y:Ld}{v v2:Value}(hb:Boxed w b 170 v)(hl:lo≤b)(h:bF t w lo x v)(hb2:Boxed w b2 170 v2)(hl2:lo≤b2)(h2:bF t w lo y v2):
  bF t w lo (.pre x y) (.func (.func 198) #[] #[.pointer (some ⟨b,0,none⟩),.pointer (some ⟨b2,0,none⟩)]):=fun W hW=>
 ⟨_,_,rfl,enters_of Tryz.func198 (by kernel_rfl) rfl,fun s h0 ha=>TG t x y b b2 v v2 W (kI hb hl hW) (kI hb2 hl2 hW) (h W hW) (h2 W hW) s h0 ha⟩
theorem bF.and_{t:Int}{w:World}{lo b b2:Nat}{x y:Ld}{v v2:Value}(hb:Boxed w b 170 v)(hl:lo≤b)(h:bF t w lo x v)(hb2:Boxed w b2 170 v2)(hl2:lo≤b2)(h2:bF t w lo y v2):
  bF t w lo (.and_ x y) (.func (.func 205) #[] #[.pointer (some ⟨b,0,none⟩),.pointer (some ⟨b2,0,none⟩)]):=fun W hW=>
 ⟨_,_,rfl,enters_of Tryz.func205 (by kernel_rfl) rfl,fun s h0 ha=>SV t x y b b2 v v2 W (kI hb hl hW) (kI hb2 hl2 hW) (h W hW) (h2 W hW) s h0 ha⟩
theorem bF.or_{t:Int}{w:World}{lo b b2:Nat}{x y:Ld}{v v2:Value}(hb:Boxed w b 170 v)(hl:lo≤b)(h:bF t w lo x v)(hb2:Boxed w b2 170 v2)(hl2:lo≤b2)(h2:bF t w lo y v2):
  bF t w lo (.or_ x y) (.func (.func 206) #[] #[.pointer (some ⟨b,0,none⟩),.pointer (some ⟨b2,0,none⟩)]):=fun W hW=>
 ⟨_,_,rfl,enters_of Tryz.func206 (by kernel_rfl) rfl,fun s h0 ha=>UZ t x y b b2 v v2 W (kI hb hl hW) (kI hb2 hl2 hW) (h W hW) (h2 W hW) s h0 ha⟩
theorem bF.if_{t:Int}{w:World}{lo b b2:Nat}{x y:Ld}{v v2:Value}(hb:Boxed w b 170 v)(hl:lo≤b)(h:bF t w lo x v)(hb2:Boxed w b2 170 v2)(hl2:lo≤b2)(h2:bF t w lo y v2):
  bF t w lo (.if_ x y) (.func (.func 207) #[] #[.pointer (some ⟨b,0,none⟩),.pointer (some ⟨b2,0,none⟩)]):=fun W hW=>
 ⟨_,_,rfl,enters_of Tryz.func207 (by kernel_rfl) rfl,fun s h0 ha=>VT t x y b b2 v v2 W (kI hb hl hW) (kI hb2 hl2 hW) (h W hW) (h2 W hW) s h0 ha⟩
def k7(t:Int)(lo:Nat)(x:Ld)(w:World)(e:Ending)(w' :World):Prop:=∃v,e= .returned (.agg #[v])∧bF t w' lo x v∧Below w.heap.size w w'
theorem XH{t:Int}{x:Ld}{u:Value}{lo:Nat}{w:World}{o:Obj}(h:bF t w lo x u)(hlo:lo≤w.heap.size):
  k7 t lo (.no x) w (.returned (.agg #[.func (.func 197) #[] #[.pointer (some ⟨w.heap.size,0,none⟩)]])) ((w.alloc (.cells #[u] 170)).alloc o):=by
 have hb:Below w.heap.size w ((w.alloc (.cells #[u] 170)).alloc o):=((Below.refl _ _).alloc (Nat.le_refl _) _).alloc (by simp) _
 exact⟨_,rfl,bF.no ((Boxed.new w 170 u).alloc o) hlo (h.below hb),hb⟩
theorem VY(t:Int)(x:Ld)(u:Value)(lo:Nat)(w:World)(hlo:lo≤w.heap.size)(h:bF t w lo x u):
  Calls Tryz.prog 183 #[.agg #[u]] w (k7 t lo (.no x) w):=by
 obtain⟨g,cap,rfl⟩:=h.form
 have H:=zH h
 have hmf:∀(fn:Fn) (first cap:Array Value) (w:World),(Instr.makeFunc fn first cap).run Tryz.prog w= .ok (.func fn first cap) w:=fun _ _ _ _=>rfl
 clear h
 go_enter Tryz.func183,Tryz.ntmps183
 go_wp2_with fail
 have hc:((w.alloc (.cells #[.func (.func g) #[] cap] 170)).alloc (.cells #[.func (.func 197) #[] #[.pointer (some ⟨w.heap.size,0,none⟩)]] 170)).cell? ⟨w.heap.size+1,0,none⟩=some (.func (.func 197) #[] #[.pointer (some ⟨w.heap.size,0,none⟩)]):=by
  have:=(Boxed.new (w.alloc (.cells #[.func (.func g) #[] cap] 170)) 170 (.func (.func 197) #[] #[.pointer (some ⟨w.heap.size,0,none⟩)])).cell
  rwa [World.size_alloc] at this
 exact⟨rfl,.agg #[.func (.func 197) #[] #[.pointer (some ⟨w.heap.size,0,none⟩)]],by simp[results,Tryz.results183,go_sem,hc],XH H.out hlo⟩
theorem M8{t:Int}{x:Ld}{so:Int}{lo:Nat}{w:World}{o:Obj}(h:∀s,0≤s→s≤aJ t→aT t x s=some (bits .and .i64 s so))(hlo:lo≤w.heap.size):
  k7 t lo x w (.returned (.agg #[.func (.func 202) #[] #[.pointer (some ⟨w.heap.size,0,none⟩)]])) ((w.alloc (.cells #[.int .i64 so] 3)).alloc o):=by
 have hb:Below w.heap.size w ((w.alloc (.cells #[.int .i64 so] 3)).alloc o):=((Below.refl _ _).alloc (Nat.le_refl _) _).alloc (by simp) _
 exact⟨_,rfl,bF.word ((Boxed.new w 3 (.int .i64 so)).alloc o) hlo h,hb⟩
theorem T5(t:Int)(x:Ld)(so:Int)(lo:Nat)(w:World)(hlo:lo≤w.heap.size)(h:∀s,0≤s→s≤aJ t→aT t x s=some (bits .and .i64 s so)):
  Calls Tryz.prog 186 #[.int .i64 so] w (k7 t lo x w):=by
 have H:=zH h
 have hmf:∀(fn:Fn) (first cap:Array Value) (w:World),(Instr.makeFunc fn first cap).run Tryz.prog w= .ok (.func fn first cap) w:=fun _ _ _ _=>rfl
 clear h
 go_enter Tryz.func186,Tryz.ntmps186
 go_wp2_with fail
 have hc:((w.alloc (.cells #[.int .i64 so] 3)).alloc (.cells #[.func (.func 202) #[] #[.pointer (some ⟨w.heap.size,0,none⟩)]] 170)).cell? ⟨w.heap.size+1,0,none⟩=some (.func (.func 202) #[] #[.pointer (some ⟨w.heap.size,0,none⟩)]):=by
  have:=(Boxed.new (w.alloc (.cells #[.int .i64 so] 3)) 170 (.func (.func 202) #[] #[.pointer (some ⟨w.heap.size,0,none⟩)])).cell
  rwa [World.size_alloc] at this
 exact⟨rfl,.agg #[.func (.func 202) #[] #[.pointer (some ⟨w.heap.size,0,none⟩)]],by simp[results,Tryz.results186,go_sem,hc],M8 H.out hlo⟩
theorem PE{t:Int}{x y:Ld}{u u2:Value}{lo:Nat}{w:World}{o:Obj}(h:bF t w lo x u)(h2:bF t w lo y u2)(hlo:lo≤w.heap.size):
  k7 t lo (.pre x y) w (.returned (.agg #[.func (.func 198) #[] #[.pointer (some ⟨w.heap.size,0,none⟩),.pointer (some ⟨w.heap.size+1,0,none⟩)]])) (((w.alloc (.cells #[u] 170)).alloc (.cells #[u2] 170)).alloc o):=by
 have hb:Below w.heap.size w (((w.alloc (.cells #[u] 170)).alloc (.cells #[u2] 170)).alloc o):=(((Below.refl _ _).alloc (Nat.le_refl _) _).alloc (by simp) _).alloc (by simp;omega) _
 have hx2:Boxed ((w.alloc (.cells #[u] 170)).alloc (.cells #[u2] 170)) (w.heap.size+1) 170 u2:=by
  have:=Boxed.new (w.alloc (.cells #[u] 170)) 170 u2
  rwa [World.size_alloc] at this
 exact⟨_,rfl,bF.pre (((Boxed.new w 170 u).alloc _).alloc o) hlo (h.below hb) (hx2.alloc o) (by omega) (h2.below hb),hb⟩
theorem VB(t:Int)(x y:Ld)(u u2:Value)(lo:Nat)(w:World)(hlo:lo≤w.heap.size)(h:bF t w lo x u)(h2:bF t w lo y u2):
  Calls Tryz.prog 184 #[.agg #[u],.agg #[u2]] w (k7 t lo (.pre x y) w):=by
 obtain⟨g,cap,rfl⟩:=h.form
 obtain⟨g2,cap2,rfl⟩:=h2.form
 have H:=zH h
 have H2:=zH h2
 have hmf:∀(fn:Fn) (first cap:Array Value) (w:World),(Instr.makeFunc fn first cap).run Tryz.prog w= .ok (.func fn first cap) w:=fun _ _ _ _=>rfl
 clear h h2
 go_enter Tryz.func184,Tryz.ntmps184
 go_wp2_with fail
 have hc:(((w.alloc (.cells #[.func (.func g) #[] cap] 170)).alloc (.cells #[.func (.func g2) #[] cap2] 170)).alloc (.cells #[.func (.func 198) #[] #[.pointer (some ⟨w.heap.size,0,none⟩),.pointer (some ⟨w.heap.size+1,0,none⟩)]] 170)).cell? ⟨w.heap.size+1+1,0,none⟩=some (.func (.func 198) #[] #[.pointer (some ⟨w.heap.size,0,none⟩),.pointer (some ⟨w.heap.size+1,0,none⟩)]):=by
  have:=(Boxed.new ((w.alloc (.cells #[.func (.func g) #[] cap] 170)).alloc (.cells #[.func (.func g2) #[] cap2] 170)) 170 (.func (.func 198) #[] #[.pointer (some ⟨w.heap.size,0,none⟩),.pointer (some ⟨w.heap.size+1,0,none⟩)])).cell
  rwa [World.size_alloc,World.size_alloc] at this
 exact⟨rfl,.agg #[.func (.func 198) #[] #[.pointer (some ⟨w.heap.size,0,none⟩),.pointer (some ⟨w.heap.size+1,0,none⟩)]],by simp[results,Tryz.results184,go_sem,hc],PE H.out H2.out hlo⟩
theorem N2{t:Int}{x y:Ld}{u u2:Value}{lo:Nat}{w:World}{o:Obj}(h:bF t w lo x u)(h2:bF t w lo y u2)(hlo:lo≤w.heap.size):
  k7 t lo (.and_ x y) w (.returned (.agg #[.func (.func 205) #[] #[.pointer (some ⟨w.heap.size,0,none⟩),.pointer (some ⟨w.heap.size+1,0,none⟩)]])) (((w.alloc (.cells #[u] 170)).alloc (.cells #[u2] 170)).alloc o):=by
 have hb:Below w.heap.size w (((w.alloc (.cells #[u] 170)).alloc (.cells #[u2] 170)).alloc o):=(((Below.refl _ _).alloc (Nat.le_refl _) _).alloc (by simp) _).alloc (by simp;omega) _
 have hx2:Boxed ((w.alloc (.cells #[u] 170)).alloc (.cells #[u2] 170)) (w.heap.size+1) 170 u2:=by
  have:=Boxed.new (w.alloc (.cells #[u] 170)) 170 u2
  rwa [World.size_alloc] at this
 exact⟨_,rfl,bF.and_ (((Boxed.new w 170 u).alloc _).alloc o) hlo (h.below hb) (hx2.alloc o) (by omega) (h2.below hb),hb⟩
theorem UR(t:Int)(x y:Ld)(u u2:Value)(lo:Nat)(w:World)(hlo:lo≤w.heap.size)(h:bF t w lo x u)(h2:bF t w lo y u2):
  Calls Tryz.prog 199 #[.agg #[u],.agg #[u2]] w (k7 t lo (.and_ x y) w):=by
 obtain⟨g,cap,rfl⟩:=h.form
 obtain⟨g2,cap2,rfl⟩:=h2.form
 have H:=zH h
 have H2:=zH h2
 have hmf:∀(fn:Fn) (first cap:Array Value) (w:World),(Instr.makeFunc fn first cap).run Tryz.prog w= .ok (.func fn first cap) w:=fun _ _ _ _=>rfl
 clear h h2
 go_enter Tryz.func199,Tryz.ntmps199
 go_wp2_with fail
 have hc:(((w.alloc (.cells #[.func (.func g) #[] cap] 170)).alloc (.cells #[.func (.func g2) #[] cap2] 170)).alloc (.cells #[.func (.func 205) #[] #[.pointer (some ⟨w.heap.size,0,none⟩),.pointer (some ⟨w.heap.size+1,0,none⟩)]] 170)).cell? ⟨w.heap.size+1+1,0,none⟩=some (.func (.func 205) #[] #[.pointer (some ⟨w.heap.size,0,none⟩),.pointer (some ⟨w.heap.size+1,0,none⟩)]):=by
  have:=(Boxed.new ((w.alloc (.cells #[.func (.func g) #[] cap] 170)).alloc (.cells #[.func (.func g2) #[] cap2] 170)) 170 (.func (.func 205) #[] #[.pointer (some ⟨w.heap.size,0,none⟩),.pointer (some ⟨w.heap.size+1,0,none⟩)])).cell
  rwa [World.size_alloc,World.size_alloc] at this
 exact⟨rfl,.agg #[.func (.func 205) #[] #[.pointer (some ⟨w.heap.size,0,none⟩),.pointer (some ⟨w.heap.size+1,0,none⟩)]],by simp[results,Tryz.results199,go_sem,hc],N2 H.out H2.out hlo⟩
theorem RB{t:Int}{x y:Ld}{u u2:Value}{lo:Nat}{w:World}{o:Obj}(h:bF t w lo x u)(h2:bF t w lo y u2)(hlo:lo≤w.heap.size):
  k7 t lo (.or_ x y) w (.returned (.agg #[.func (.func 206) #[] #[.pointer (some ⟨w.heap.size,0,none⟩),.pointer (some ⟨w.heap.size+1,0,none⟩)]])) (((w.alloc (.cells #[u] 170)).alloc (.cells #[u2] 170)).alloc o):=by
 have hb:Below w.heap.size w (((w.alloc (.cells #[u] 170)).alloc (.cells #[u2] 170)).alloc o):=(((Below.refl _ _).alloc (Nat.le_refl _) _).alloc (by simp) _).alloc (by simp;omega) _
 have hx2:Boxed ((w.alloc (.cells #[u] 170)).alloc (.cells #[u2] 170)) (w.heap.size+1) 170 u2:=by
  have:=Boxed.new (w.alloc (.cells #[u] 170)) 170 u2
  rwa [World.size_alloc] at this
 exact⟨_,rfl,bF.or_ (((Boxed.new w 170 u).alloc _).alloc o) hlo (h.below hb) (hx2.alloc o) (by omega) (h2.below hb),hb⟩
theorem WQ(t:Int)(x y:Ld)(u u2:Value)(lo:Nat)(w:World)(hlo:lo≤w.heap.size)(h:bF t w lo x u)(h2:bF t w lo y u2):
  Calls Tryz.prog 200 #[.agg #[u],.agg #[u2]] w (k7 t lo (.or_ x y) w):=by
 obtain⟨g,cap,rfl⟩:=h.form
 obtain⟨g2,cap2,rfl⟩:=h2.form
 have H:=zH h
 have H2:=zH h2
 have hmf:∀(fn:Fn) (first cap:Array Value) (w:World),(Instr.makeFunc fn first cap).run Tryz.prog w= .ok (.func fn first cap) w:=fun _ _ _ _=>rfl
 clear h h2
 go_enter Tryz.func200,Tryz.ntmps200
 go_wp2_with fail
 have hc:(((w.alloc (.cells #[.func (.func g) #[] cap] 170)).alloc (.cells #[.func (.func g2) #[] cap2] 170)).alloc (.cells #[.func (.func 206) #[] #[.pointer (some ⟨w.heap.size,0,none⟩),.pointer (some ⟨w.heap.size+1,0,none⟩)]] 170)).cell? ⟨w.heap.size+1+1,0,none⟩=some (.func (.func 206) #[] #[.pointer (some ⟨w.heap.size,0,none⟩),.pointer (some ⟨w.heap.size+1,0,none⟩)]):=by
  have:=(Boxed.new ((w.alloc (.cells #[.func (.func g) #[] cap] 170)).alloc (.cells #[.func (.func g2) #[] cap2] 170)) 170 (.func (.func 206) #[] #[.pointer (some ⟨w.heap.size,0,none⟩),.pointer (some ⟨w.heap.size+1,0,none⟩)])).cell
  rwa [World.size_alloc,World.size_alloc] at this
 exact⟨rfl,.agg #[.func (.func 206) #[] #[.pointer (some ⟨w.heap.size,0,none⟩),.pointer (some ⟨w.heap.size+1,0,none⟩)]],by simp[results,Tryz.results200,go_sem,hc],RB H.out H2.out hlo⟩
theorem R4{t:Int}{x y:Ld}{u u2:Value}{lo:Nat}{w:World}{o:Obj}(h:bF t w lo x u)(h2:bF t w lo y u2)(hlo:lo≤w.heap.size):
  k7 t lo (.if_ x y) w (.returned (.agg #[.func (.func 207) #[] #[.pointer (some ⟨w.heap.size,0,none⟩),.pointer (some ⟨w.heap.size+1,0,none⟩)]])) (((w.alloc (.cells #[u] 170)).alloc (.cells #[u2] 170)).alloc o):=by
 have hb:Below w.heap.size w (((w.alloc (.cells #[u] 170)).alloc (.cells #[u2] 170)).alloc o):=(((Below.refl _ _).alloc (Nat.le_refl _) _).alloc (by simp) _).alloc (by simp;omega) _
 have hx2:Boxed ((w.alloc (.cells #[u] 170)).alloc (.cells #[u2] 170)) (w.heap.size+1) 170 u2:=by
  have:=Boxed.new (w.alloc (.cells #[u] 170)) 170 u2
  rwa [World.size_alloc] at this
 exact⟨_,rfl,bF.if_ (((Boxed.new w 170 u).alloc _).alloc o) hlo (h.below hb) (hx2.alloc o) (by omega) (h2.below hb),hb⟩
theorem WZ(t:Int)(x y:Ld)(u u2:Value)(lo:Nat)(w:World)(hlo:lo≤w.heap.size)(h:bF t w lo x u)(h2:bF t w lo y u2):
  Calls Tryz.prog 201 #[.agg #[u],.agg #[u2]] w (k7 t lo (.if_ x y) w):=by
 obtain⟨g,cap,rfl⟩:=h.form
 obtain⟨g2,cap2,rfl⟩:=h2.form
 have H:=zH h
 have H2:=zH h2
 have hmf:∀(fn:Fn) (first cap:Array Value) (w:World),(Instr.makeFunc fn first cap).run Tryz.prog w= .ok (.func fn first cap) w:=fun _ _ _ _=>rfl
 clear h h2
 go_enter Tryz.func201,Tryz.ntmps201
 go_wp2_with fail
 have hc:(((w.alloc (.cells #[.func (.func g) #[] cap] 170)).alloc (.cells #[.func (.func g2) #[] cap2] 170)).alloc (.cells #[.func (.func 207) #[] #[.pointer (some ⟨w.heap.size,0,none⟩),.pointer (some ⟨w.heap.size+1,0,none⟩)]] 170)).cell? ⟨w.heap.size+1+1,0,none⟩=some (.func (.func 207) #[] #[.pointer (some ⟨w.heap.size,0,none⟩),.pointer (some ⟨w.heap.size+1,0,none⟩)]):=by
  have:=(Boxed.new ((w.alloc (.cells #[.func (.func g) #[] cap] 170)).alloc (.cells #[.func (.func g2) #[] cap2] 170)) 170 (.func (.func 207) #[] #[.pointer (some ⟨w.heap.size,0,none⟩),.pointer (some ⟨w.heap.size+1,0,none⟩)])).cell
  rwa [World.size_alloc,World.size_alloc] at this
 exact⟨rfl,.agg #[.func (.func 207) #[] #[.pointer (some ⟨w.heap.size,0,none⟩),.pointer (some ⟨w.heap.size+1,0,none⟩)]],by simp[results,Tryz.results201,go_sem,hc],R4 H.out H2.out hlo⟩
def g6(t:Int)(R:Nat)(s st:ByteArray)(x:Ld)(rest:List Nat)(w:World)(e:Ending)(w' :World):Prop:=
 ∃v at_,e= .returned (.agg #[v])∧at_≤s.size∧(aG s).drop at_=rest∧bT w' R s at_ st∧bF t w' w.heap.size x v∧w.grownBy w' (some R)
def DD(t:Int)(R:Nat)(s st:ByteArray)(o:Option (Ld×List Nat))(w:World)(e:Ending)(w' :World):Prop:=
 match o with
 |some (x,rest)=>g6 t R s st x rest w e w'
 |none=>cM R w e w'
def tO(t:Int)(k R:Nat)(s st:ByteArray):Prop:=∀(at_:Nat) (w:World),bT w R s at_ st→at_≤s.size→s.size-at_≤k→
 Calls Tryz.prog 168 #[.pointer (some ⟨R,0,none⟩),.int .i64 t] w (DD t R s st (bJ t k ((aG s).drop at_)) w)
theorem nU{t:Int}{k R:Nat}{s st:ByteArray}(ih:tO t k R s st){at_:Nat}{w:World}(hr:bT w R s at_ st)(hle:at_≤s.size)(hk:s.size-at_≤k)(h:bJ t k ((aG s).drop at_)=none):
  Calls Tryz.prog 168 #[.pointer (some ⟨R,0,none⟩),.int .i64 t] w (cM R w):=by
 have:=ih at_ w hr hle hk
 rw[h] at this;exact this
theorem eN{t:Int}{k R:Nat}{s st:ByteArray}(ih:tO t k R s st){at_:Nat}{w:World}(hr:bT w R s at_ st)(hle:at_≤s.size)(hk:s.size-at_≤k){x:Ld}{rest:List Nat}(h:bJ t k ((aG s).drop at_)=some (x,rest)):
  Calls Tryz.prog 168 #[.pointer (some ⟨R,0,none⟩),.int .i64 t] w (g6 t R s st x rest w):=by
 have:=ih at_ w hr hle hk
 rw[h] at this;exact this
theorem jV{t:Int}{k at_ a2:Nat}{s:ByteArray}{x:Ld}{rest:List Nat}(h:bJ t k ((aG s).drop at_)=some (x,rest))(e:(aG s).drop a2=rest)(hle:at_≤s.size)(hle2:a2≤s.size):at_<a2:=by
 have:=uK t k _ _ _ h
 rw[←e,List.length_drop,List.length_drop,bR] at this
 omega
def cZ(t:Int)(k:Nat)(l:List Nat):Option (Ld×List Nat):=
 match bJ t k l with
 |some (x,m::l2)=>
  match bJ t k l2 with
  |some (y,e::r)=>if e=41 then(GO m x y).map fun z=>(z,r) else none
  |_=>none
 |_=>none
theorem DA{m:Nat}{x y:Ld}(h:(decide (m=38)||decide (m=124)||decide (m=62))=false):GO m x y=none:=by
 simp only[Bool.or_eq_false_iff,decide_eq_false_iff_not] at h
 unfold GO
 rw[if_neg h.1.1,if_neg h.1.2,if_neg h.2]
theorem MB{a w:World}{row:Option Nat}{b:Nat}(h:a.grownBy w row)(hb:a.heap.size≤b)(v:Value):a.grownBy (w.setCell ⟨b,0,none⟩ v) row:=
 sP h (gE (World.grownBy.refl w (some b)) 0 v) (fun k e=>by cases e;exact hb)
theorem UD{w:World}{R C:Nat}{s st:ByteArray}{at_:Nat}(h:bT w R s at_ st)(hC:C≠R)(v:Value):bT (w.setCell ⟨C,0,none⟩ v) R s at_ st:=
 (Below.heap_setCell _ _ _ R (fun e=>hC e.symm)).trans h
theorem bF.set{t:Int}{w:World}{lo C:Nat}{x:Ld}{v:Value}(h:bF t w lo x v)(hC:C<lo)(u:Value):bF t (w.setCell ⟨C,0,none⟩ u) lo x v:=
 h.keep (by have:=(KeepsWalks.setCell w ⟨C,0,none⟩ u).size;omega) fun b hl _=>Below.heap_setCell _ _ _ b (by show b≠C;omega)
theorem mJ{t:Int}{R B:Nat}{s st:ByteArray}{x:Ld}{rest:List Nat}{w w' :World}{v:Value}{at_:Nat}(hB:w.heap.size≤B)(hR:R<w.heap.size)(hle:at_≤s.size)(hd:(aG s).drop at_=rest)(hr:bT w' R s at_ st)(hx:bF t w' (B+1) x v)(hg:w.grownBy w' (some R)):
  g6 t R s st x rest w (.returned (.agg #[v])) (w'.setCell ⟨B,0,none⟩ v):=
 ⟨v,at_,rfl,hle,hd,UD hr (by omega) v,(hx.set (by omega) v).low (by omega),MB hg hB v⟩
theorem NP(t:Int)(k R:Nat)(s st:ByteArray)(hs:s.size≤1048576)(ih:tO t k R s st)(at_:Nat)(w:World)(hr:bT w R s at_ st)(hle:at_≤s.size)(hk:s.size-at_≤k):
  Calls Tryz.prog 185 #[.pointer (some ⟨R,0,none⟩),.int .i64 t] w (DD t R s st (cZ t k ((aG s).drop at_)) w):=by
 have hR:=mL hr
 have hmf:∀(fn:Fn) (first cap:Array Value) (w:World),(Instr.makeFunc fn first cap).run Tryz.prog w= .ok (.func fn first cap) w:=fun _ _ _ _=>rfl
 obtain⟨W,hW⟩:∃W,w.alloc (.cells #[.nilFunc] 170)=W:=⟨_,rfl⟩
 have hX:Boxed W w.heap.size 170 .nilFunc:=by rw[←hW];exact Boxed.new w 170 .nilFunc
 have hrW:bT W R s at_ st:=by rw[←hW];exact cP hr _
 have hsz:W.heap.size=w.heap.size+1:=by rw[←hW,World.size_alloc]
 have hgW:w.grownBy W (some R):=by rw[←hW];exact bB (World.grownBy.refl w (some R)) _
 have HW:=zH hW
 have HX:=zH hX
 have HGW:=zH hgW
 clear hX hgW hW
 rcases h1:bJ t k ((aG s).drop at_) with _|⟨x,_|⟨m,l2⟩⟩
 ·have HI:=zH (nU ih hrW hle hk h1)
  rw[show cZ t k ((aG s).drop at_)=none by unfold cZ;rw[h1]]
  show Calls _ _ _ _ (cM R w)
  clear h1 hr hrW ih
  go_enter Tryz.func185,Tryz.ntmps185
  go_wp2_with fail
  rw[HW.out]
  refine HI.out.mono ?_
  rintro e w1 ⟨v,rfl,hg⟩
  exact⟨rfl,v,rfl,HGW.out.trans hg⟩
 ·have HI:=zH (eN ih hrW hle hk h1)
  rw[show cZ t k ((aG s).drop at_)=none by unfold cZ;rw[h1]]
  show Calls _ _ _ _ (cM R w)
  clear h1 hr hrW ih
  go_enter Tryz.func185,Tryz.ntmps185
  go_wp2_with fail
  rw[HW.out]
  refine HI.out.mono ?_
  rintro e w1 ⟨v1,a2,rfl,hle2,hd,hr1,hn,hg⟩
  obtain⟨g1,cap1,rfl⟩:=hn.form
  obtain rfl:=eH hd hle2
  obtain⟨W1,hW1⟩:∃W,w1.alloc (.cells #[.func (.func g1) #[] cap1] 170)=W:=⟨_,rfl⟩
  have HT:=zH (j0 R s st ⟨#[38,124,62]⟩ W1 hs (by rw[←hW1];exact cP hr1 _))
  have HG:Hid (w.grownBy W1 (some R)):=by rw[←hW1];exact bB (HGW.out.trans hg) _
  have HW1:=zH hW1
  clear hd hr1 hn hg hW1
  go_wp2_with fail
  rw[HW1.out]
  refine HT.out.mono ?_
  rintro e w2 ⟨v,rfl,hg2⟩
  exact⟨rfl,v,rfl,HG.out.trans hg2⟩
 ·have HI:=zH (eN ih hrW hle hk h1)
  rcases hm:(decide (m=38)||decide (m=124)||decide (m=62)) with _|_
  ·have hno:cZ t k ((aG s).drop at_)=none:=by
    unfold cZ
    rw[h1]
    simp only
    split
    ·split
     ·rw[DA hm];rfl
     ·rfl
    ·rfl
   rw[hno]
   show Calls _ _ _ _ (cM R w)
   have HM:=zH hm
   clear h1 hr hrW ih hno hm
   go_enter Tryz.func185,Tryz.ntmps185
   go_wp2_with fail
   rw[HW.out]
   refine HI.out.mono ?_
   rintro e w1 ⟨v1,a2,rfl,hle2,hd,hr1,hn,hg⟩
   obtain⟨g1,cap1,rfl⟩:=hn.form
   obtain⟨W1,hW1⟩:∃W,w1.alloc (.cells #[.func (.func g1) #[] cap1] 170)=W:=⟨_,rfl⟩
   have hrW1:bT W1 R s a2 st:=by rw[←hW1];exact cP hr1 _
   have HG:Hid (w.grownBy W1 (some R)):=by rw[←hW1];exact bB (HGW.out.trans hg) _
   have HX5:Hid (Boxed W1 w1.heap.size 170 (.func (.func g1) #[] cap1)):=by rw[←hW1];exact Boxed.new w1 _ _
   have hs1:W1.heap.size=w1.heap.size+1:=by rw[←hW1,World.size_alloc]
   have hs0:W.heap.size≤w1.heap.size:=hg.size
   have HN:Hid (bF t W1 W.heap.size x (.func (.func g1) #[] cap1)):=by rw[←hW1];exact hn.below ((Below.refl _ _).alloc (Nat.le_refl _) _)
   replace HX:Hid (Boxed W1 w.heap.size 170 .nilFunc):=by rw[←hW1];exact(HX.out.kept hg (fun e=>by have:=Option.some.inj e;omega)).alloc _
   have HW1:=zH hW1
   clear hr1 hn hg hW1
   obtain⟨hlt2,hm2,_⟩:=aW hd
   have HT:=zH (mK R s st ⟨#[38,124,62]⟩ a2 W1 hs hlt2 hrW1 (by rw[gA,hm2];exact HM.out))
   clear hd hm2 hrW1
   go_wp2_with fail
   rw[HW1.out]
   refine HT.out.mono ?_
   rintro e w2 ⟨v,rfl,hg2⟩
   exact⟨rfl,v,rfl,HG.out.trans hg2⟩
  ·have hm3:m=38∨m=124∨m=62:=by simpa [or_assoc] using hm
   have HM:=zH hm
   have HM3:=zH hm3
   have HH1:=zH h1
   have HIH:=zH ih
   rcases h2:bJ t k l2 with _|⟨y,_|⟨e0,r⟩⟩
   ·rw[show cZ t k ((aG s).drop at_)=none by unfold cZ;rw[h1];simp only;rw[h2]]
    show Calls _ _ _ _ (cM R w)
    have HH2:=zH h2
    clear h1 h2 hr hrW ih hm hm3
    go_enter Tryz.func185,Tryz.ntmps185
    go_wp2_with fail
    rw[HW.out]
    refine HI.out.mono ?_
    rintro e w1 ⟨v1,a2,rfl,hle2,hd,hr1,hn,hg⟩
    obtain⟨g1,cap1,rfl⟩:=hn.form
    have hlt:=jV HH1.out hd hle hle2
    obtain⟨hlt2,hm2,hd2⟩:=aW hd
    obtain⟨W1,hW1⟩:∃W,w1.alloc (.cells #[.func (.func g1) #[] cap1] 170)=W:=⟨_,rfl⟩
    have hrW1:bT W1 R s a2 st:=by rw[←hW1];exact cP hr1 _
    have HG:Hid (w.grownBy W1 (some R)):=by rw[←hW1];exact bB (HGW.out.trans hg) _
    have HX5:Hid (Boxed W1 w1.heap.size 170 (.func (.func g1) #[] cap1)):=by rw[←hW1];exact Boxed.new w1 _ _
    have hs1:W1.heap.size=w1.heap.size+1:=by rw[←hW1,World.size_alloc]
    have hs0:W.heap.size≤w1.heap.size:=hg.size
    have HN:Hid (bF t W1 W.heap.size x (.func (.func g1) #[] cap1)):=by rw[←hW1];exact hn.below ((Below.refl _ _).alloc (Nat.le_refl _) _)
    replace HX:Hid (Boxed W1 w.heap.size 170 .nilFunc):=by rw[←hW1];exact(HX.out.kept hg (fun e=>by have:=Option.some.inj e;omega)).alloc _
    have HW1:=zH hW1
    clear hr1 hn hg hW1
    have HT:=zH (eO hs hlt2 hm2 hrW1 (al:=⟨#[38,124,62]⟩) (by rw[gA,hm2];exact HM.out))
    have HD2:=zH hd2
    clear hd hrW1 hm2 hd2
    go_wp2_with fail
    rw[HW1.out]
    refine HT.out.mono ?_
    rintro e w2 ⟨rfl,hr2,hg2⟩
    have hs2:W1.heap.size≤w2.heap.size:=hg2.size
    have HI2:=zH (nU HIH.out hr2 (by omega) (by omega) (by rw[HD2.out];exact HH2.out))
    have HG2:=zH (HG.out.trans hg2)
    clear hr2 hg2
    go_wp2_with fail
    refine HI2.out.mono ?_
    rintro e w3 ⟨v,rfl,hg3⟩
    exact⟨rfl,v,rfl,HG2.out.trans hg3⟩
   ·rw[show cZ t k ((aG s).drop at_)=none by unfold cZ;rw[h1];simp only;rw[h2]]
    show Calls _ _ _ _ (cM R w)
    have HH2:=zH h2
    clear h1 h2 hr hrW ih hm hm3
    go_enter Tryz.func185,Tryz.ntmps185
    go_wp2_with fail
    rw[HW.out]
    refine HI.out.mono ?_
    rintro e w1 ⟨v1,a2,rfl,hle2,hd,hr1,hn,hg⟩
    obtain⟨g1,cap1,rfl⟩:=hn.form
    have hlt:=jV HH1.out hd hle hle2
    obtain⟨hlt2,hm2,hd2⟩:=aW hd
    obtain⟨W1,hW1⟩:∃W,w1.alloc (.cells #[.func (.func g1) #[] cap1] 170)=W:=⟨_,rfl⟩
    have hrW1:bT W1 R s a2 st:=by rw[←hW1];exact cP hr1 _
    have HG:Hid (w.grownBy W1 (some R)):=by rw[←hW1];exact bB (HGW.out.trans hg) _
    have HX5:Hid (Boxed W1 w1.heap.size 170 (.func (.func g1) #[] cap1)):=by rw[←hW1];exact Boxed.new w1 _ _
    have hs1:W1.heap.size=w1.heap.size+1:=by rw[←hW1,World.size_alloc]
    have hs0:W.heap.size≤w1.heap.size:=hg.size
    have HN:Hid (bF t W1 W.heap.size x (.func (.func g1) #[] cap1)):=by rw[←hW1];exact hn.below ((Below.refl _ _).alloc (Nat.le_refl _) _)
    replace HX:Hid (Boxed W1 w.heap.size 170 .nilFunc):=by rw[←hW1];exact(HX.out.kept hg (fun e=>by have:=Option.some.inj e;omega)).alloc _
    have HW1:=zH hW1
    clear hr1 hn hg hW1
    have HT:=zH (eO hs hlt2 hm2 hrW1 (al:=⟨#[38,124,62]⟩) (by rw[gA,hm2];exact HM.out))
    have HD2:=zH hd2
    clear hd hrW1 hm2 hd2
    go_wp2_with fail
    rw[HW1.out]
    refine HT.out.mono ?_
    rintro e w2 ⟨rfl,hr2,hg2⟩
    have hs2:W1.heap.size≤w2.heap.size:=hg2.size
    have HI2:=zH (eN HIH.out hr2 (by omega) (by omega) (by rw[HD2.out];exact HH2.out))
    have HG2:=zH (HG.out.trans hg2)
    clear hr2 hg2
    go_wp2_with fail
    refine HI2.out.mono ?_
    rintro e w3 ⟨v3,a3,rfl,hle3,hd3,hr3,hn3,hg3⟩
    obtain⟨g3,cap3,rfl⟩:=hn3.form
    obtain rfl:=eH hd3 hle3
    obtain⟨W3,hW3⟩:∃W,w3.alloc (.cells #[.func (.func g3) #[] cap3] 170)=W:=⟨_,rfl⟩
    have HT3:=zH (j0 R s st ⟨#[41]⟩ W3 hs (by rw[←hW3];exact cP hr3 _))
    have HG3:Hid (w.grownBy W3 (some R)):=by rw[←hW3];exact bB (HG2.out.trans hg3) _
    have HW3:=zH hW3
    clear hd3 hr3 hn3 hg3 hW3
    go_wp2_with fail
    rw[HW3.out]
    refine HT3.out.mono ?_
    rintro e w4 ⟨v,rfl,hg4⟩
    exact⟨rfl,v,rfl,HG3.out.trans hg4⟩
   ·by_cases he:e0=41
    ·subst he
     rcases hm3 with rfl|rfl|rfl
     ·rw[show cZ t k ((aG s).drop at_)=some (.and_ x y,r) by unfold cZ;rw[h1];simp only;rw[h2];rfl]
      show Calls _ _ _ _ (g6 t R s st _ r w)
      have HH2:=zH h2
      clear h1 h2 hr hrW ih hm
      go_enter Tryz.func185,Tryz.ntmps185
      go_wp2_with fail
      rw[HW.out]
      refine HI.out.mono ?_
      rintro e w1 ⟨v1,a2,rfl,hle2,hd,hr1,hn,hg⟩
      obtain⟨g1,cap1,rfl⟩:=hn.form
      have hlt:=jV HH1.out hd hle hle2
      obtain⟨hlt2,hm2,hd2⟩:=aW hd
      obtain⟨W1,hW1⟩:∃W,w1.alloc (.cells #[.func (.func g1) #[] cap1] 170)=W:=⟨_,rfl⟩
      have hrW1:bT W1 R s a2 st:=by rw[←hW1];exact cP hr1 _
      have HG:Hid (w.grownBy W1 (some R)):=by rw[←hW1];exact bB (HGW.out.trans hg) _
      have HX5:Hid (Boxed W1 w1.heap.size 170 (.func (.func g1) #[] cap1)):=by rw[←hW1];exact Boxed.new w1 _ _
      have hs1:W1.heap.size=w1.heap.size+1:=by rw[←hW1,World.size_alloc]
      have hs0:W.heap.size≤w1.heap.size:=hg.size
      have HN:Hid (bF t W1 W.heap.size x (.func (.func g1) #[] cap1)):=by rw[←hW1];exact hn.below ((Below.refl _ _).alloc (Nat.le_refl _) _)
      replace HX:Hid (Boxed W1 w.heap.size 170 .nilFunc):=by rw[←hW1];exact(HX.out.kept hg (fun e=>by have:=Option.some.inj e;omega)).alloc _
      have HW1:=zH hW1
      clear hr1 hn hg hW1
      have HT:=zH (eO hs hlt2 hm2 hrW1 (al:=⟨#[38,124,62]⟩) (by rw[gA,hm2];exact HM.out))
      have HD2:=zH hd2
      clear hd hrW1 hm2 hd2
      go_wp2_with fail
      rw[HW1.out]
      refine HT.out.mono ?_
      rintro e w2 ⟨rfl,hr2,hg2⟩
      have hs2:W1.heap.size≤w2.heap.size:=hg2.size
      have HI2:=zH (eN HIH.out hr2 (by omega) (by omega) (by rw[HD2.out];exact HH2.out))
      have HG2:=zH (HG.out.trans hg2)
      replace HN:=zH (HN.out.grown hg2 (by omega))
      replace HX:=zH (HX.out.kept hg2 (fun e=>by have:=Option.some.inj e;omega))
      replace HX5:=zH (HX5.out.kept hg2 (fun e=>by have:=Option.some.inj e;omega))
      clear hr2 hg2
      go_wp2_with fail
      refine HI2.out.mono ?_
      rintro e w3 ⟨v3,a3,rfl,hle3,hd3,hr3,hn3,hg3⟩
      obtain⟨g3,cap3,rfl⟩:=hn3.form
      obtain⟨hlt3,hm3,hd4⟩:=aW hd3
      have hs3:w2.heap.size≤w3.heap.size:=hg3.size
      obtain⟨W3,hW3⟩:∃W,w3.alloc (.cells #[.func (.func g3) #[] cap3] 170)=W:=⟨_,rfl⟩
      have hrW3:bT W3 R s a3 st:=by rw[←hW3];exact cP hr3 _
      have hb3:Below w3.heap.size w3 W3:=by rw[←hW3];exact(Below.refl _ _).alloc (Nat.le_refl _) _
      have HG3:Hid (w.grownBy W3 (some R)):=by rw[←hW3];exact bB (HG2.out.trans hg3) _
      have HX7:Hid (Boxed W3 w3.heap.size 170 (.func (.func g3) #[] cap3)):=by rw[←hW3];exact Boxed.new w3 _ _
      have hs4:W3.heap.size=w3.heap.size+1:=by rw[←hW3,World.size_alloc]
      replace HN:=zH ((HN.out.grown hg3 (by omega)).below hb3)
      have HN3:=zH ((bF.low (lo' :=W.heap.size) (by omega) hn3).below hb3)
      replace HX:=zH (show Boxed W3 _ _ _ by rw[←hW3];exact(HX.out.kept hg3 (fun e=>by have:=Option.some.inj e;omega)).alloc _)
      replace HX5:=zH (show Boxed W3 _ _ _ by rw[←hW3];exact(HX5.out.kept hg3 (fun e=>by have:=Option.some.inj e;omega)).alloc _)
      have HW3:=zH hW3
      have HD4:=zH hd4
      clear hd3 hr3 hn3 hg3 hd4 hW3 hb3
      have HT3:=zH (eO hs hlt3 hm3 hrW3 (al:=⟨#[41]⟩) (by rw[oJ,hm3];rfl))
      clear hrW3 hm3
      go_wp2_with fail
      rw[HW3.out]
      refine HT3.out.mono ?_
      rintro e w4 ⟨rfl,hr4,hg4⟩
      have hs5:W3.heap.size≤w4.heap.size:=hg4.size
      have HG4:=zH (HG3.out.trans hg4)
      have HR4:=zH hr4
      have HMK:=zH (UR t x y _ _ W.heap.size w4 (by omega) (HN.out.grown hg4 (by omega)) (HN3.out.grown hg4 (by omega)))
      have hx5:=(HX5.out.kept hg4 (fun e=>by have:=Option.some.inj e;omega)).cell
      have hx7:=(HX7.out.kept hg4 (fun e=>by have:=Option.some.inj e;omega)).cell
      replace HX:=zH (HX.out.kept hg4 (fun e=>by have:=Option.some.inj e;omega))
      clear hr4 hg4 HN HN3 HX5 HX7
      go_wp2_with (go_at_call 199;refine HMK.out.mono ?_;clear HMK;rintro e w5 ⟨v5,rfl,hn5,hb5⟩;obtain⟨g5,cap5,rfl⟩:=hn5.form;have hx4:=(Boxed.cell (show Boxed w5 _ _ _ from(hb5.block _ HX.out.lt).trans HX.out));have hf4:=(Boxed.frozen (show Boxed w5 _ _ _ from(hb5.block _ HX.out.lt).trans HX.out));have HR5:Hid (bT w5 R s (a3+1) st):=(hb5.block _ (mL HR4.out)).trans HR4.out;have HG5:=zH (fU HG4.out hb5);have HX:=zH (show Boxed w5 _ _ _ from(hb5.block _ HX.out.lt).trans HX.out);have HN5:=zH hn5;clear hn5 hb5)
      have hc:=(HX.out.set (.func (.func g5) #[] cap5)).cell
      have HE:=zH (mJ (B:=w.heap.size) (Nat.le_refl _) hR (by omega) HD4.out HR5.out (by rw[←hsz];exact HN5.out) HG5.out)
      exact⟨rfl,.agg #[.func (.func g5) #[] cap5],by simp[results,Tryz.results185,go_sem,hc],HE.out⟩
     ·rw[show cZ t k ((aG s).drop at_)=some (.or_ x y,r) by unfold cZ;rw[h1];simp only;rw[h2];rfl]
      show Calls _ _ _ _ (g6 t R s st _ r w)
      have HH2:=zH h2
      clear h1 h2 hr hrW ih hm
      go_enter Tryz.func185,Tryz.ntmps185
      go_wp2_with fail
      rw[HW.out]
      refine HI.out.mono ?_
      rintro e w1 ⟨v1,a2,rfl,hle2,hd,hr1,hn,hg⟩
      obtain⟨g1,cap1,rfl⟩:=hn.form
      have hlt:=jV HH1.out hd hle hle2
      obtain⟨hlt2,hm2,hd2⟩:=aW hd
      obtain⟨W1,hW1⟩:∃W,w1.alloc (.cells #[.func (.func g1) #[] cap1] 170)=W:=⟨_,rfl⟩
      have hrW1:bT W1 R s a2 st:=by rw[←hW1];exact cP hr1 _
      have HG:Hid (w.grownBy W1 (some R)):=by rw[←hW1];exact bB (HGW.out.trans hg) _
      have HX5:Hid (Boxed W1 w1.heap.size 170 (.func (.func g1) #[] cap1)):=by rw[←hW1];exact Boxed.new w1 _ _
      have hs1:W1.heap.size=w1.heap.size+1:=by rw[←hW1,World.size_alloc]
      have hs0:W.heap.size≤w1.heap.size:=hg.size
      have HN:Hid (bF t W1 W.heap.size x (.func (.func g1) #[] cap1)):=by rw[←hW1];exact hn.below ((Below.refl _ _).alloc (Nat.le_refl _) _)
      replace HX:Hid (Boxed W1 w.heap.size 170 .nilFunc):=by rw[←hW1];exact(HX.out.kept hg (fun e=>by have:=Option.some.inj e;omega)).alloc _
      have HW1:=zH hW1
      clear hr1 hn hg hW1
      have HT:=zH (eO hs hlt2 hm2 hrW1 (al:=⟨#[38,124,62]⟩) (by rw[gA,hm2];exact HM.out))
      have HD2:=zH hd2
      clear hd hrW1 hm2 hd2
      go_wp2_with fail
      rw[HW1.out]
      refine HT.out.mono ?_
      rintro e w2 ⟨rfl,hr2,hg2⟩
      have hs2:W1.heap.size≤w2.heap.size:=hg2.size
      have HI2:=zH (eN HIH.out hr2 (by omega) (by omega) (by rw[HD2.out];exact HH2.out))
      have HG2:=zH (HG.out.trans hg2)
      replace HN:=zH (HN.out.grown hg2 (by omega))
      replace HX:=zH (HX.out.kept hg2 (fun e=>by have:=Option.some.inj e;omega))
      replace HX5:=zH (HX5.out.kept hg2 (fun e=>by have:=Option.some.inj e;omega))
      clear hr2 hg2
      go_wp2_with fail
      refine HI2.out.mono ?_
      rintro e w3 ⟨v3,a3,rfl,hle3,hd3,hr3,hn3,hg3⟩
      obtain⟨g3,cap3,rfl⟩:=hn3.form
      obtain⟨hlt3,hm3,hd4⟩:=aW hd3
      have hs3:w2.heap.size≤w3.heap.size:=hg3.size
      obtain⟨W3,hW3⟩:∃W,w3.alloc (.cells #[.func (.func g3) #[] cap3] 170)=W:=⟨_,rfl⟩
      have hrW3:bT W3 R s a3 st:=by rw[←hW3];exact cP hr3 _
      have hb3:Below w3.heap.size w3 W3:=by rw[←hW3];exact(Below.refl _ _).alloc (Nat.le_refl _) _
      have HG3:Hid (w.grownBy W3 (some R)):=by rw[←hW3];exact bB (HG2.out.trans hg3) _
      have HX7:Hid (Boxed W3 w3.heap.size 170 (.func (.func g3) #[] cap3)):=by rw[←hW3];exact Boxed.new w3 _ _
      have hs4:W3.heap.size=w3.heap.size+1:=by rw[←hW3,World.size_alloc]
      replace HN:=zH ((HN.out.grown hg3 (by omega)).below hb3)
      have HN3:=zH ((bF.low (lo' :=W.heap.size) (by omega) hn3).below hb3)
      replace HX:=zH (show Boxed W3 _ _ _ by rw[←hW3];exact(HX.out.kept hg3 (fun e=>by have:=Option.some.inj e;omega)).alloc _)
      replace HX5:=zH (show Boxed W3 _ _ _ by rw[←hW3];exact(HX5.out.kept hg3 (fun e=>by have:=Option.some.inj e;omega)).alloc _)
      have HW3:=zH hW3
      have HD4:=zH hd4
      clear hd3 hr3 hn3 hg3 hd4 hW3 hb3
      have HT3:=zH (eO hs hlt3 hm3 hrW3 (al:=⟨#[41]⟩) (by rw[oJ,hm3];rfl))
      clear hrW3 hm3
      go_wp2_with fail
      rw[HW3.out]
      refine HT3.out.mono ?_
      rintro e w4 ⟨rfl,hr4,hg4⟩
      have hs5:W3.heap.size≤w4.heap.size:=hg4.size
      have HG4:=zH (HG3.out.trans hg4)
      have HR4:=zH hr4
      have HMK:=zH (WQ t x y _ _ W.heap.size w4 (by omega) (HN.out.grown hg4 (by omega)) (HN3.out.grown hg4 (by omega)))
      have hx5:=(HX5.out.kept hg4 (fun e=>by have:=Option.some.inj e;omega)).cell
      have hx7:=(HX7.out.kept hg4 (fun e=>by have:=Option.some.inj e;omega)).cell
      replace HX:=zH (HX.out.kept hg4 (fun e=>by have:=Option.some.inj e;omega))
      clear hr4 hg4 HN HN3 HX5 HX7
      go_wp2_with (go_at_call 200;refine HMK.out.mono ?_;clear HMK;rintro e w5 ⟨v5,rfl,hn5,hb5⟩;obtain⟨g5,cap5,rfl⟩:=hn5.form;have hx4:=(Boxed.cell (show Boxed w5 _ _ _ from(hb5.block _ HX.out.lt).trans HX.out));have hf4:=(Boxed.frozen (show Boxed w5 _ _ _ from(hb5.block _ HX.out.lt).trans HX.out));have HR5:Hid (bT w5 R s (a3+1) st):=(hb5.block _ (mL HR4.out)).trans HR4.out;have HG5:=zH (fU HG4.out hb5);have HX:=zH (show Boxed w5 _ _ _ from(hb5.block _ HX.out.lt).trans HX.out);have HN5:=zH hn5;clear hn5 hb5)
      have hc:=(HX.out.set (.func (.func g5) #[] cap5)).cell
      have HE:=zH (mJ (B:=w.heap.size) (Nat.le_refl _) hR (by omega) HD4.out HR5.out (by rw[←hsz];exact HN5.out) HG5.out)
      exact⟨rfl,.agg #[.func (.func g5) #[] cap5],by simp[results,Tryz.results185,go_sem,hc],HE.out⟩
     ·rw[show cZ t k ((aG s).drop at_)=some (.if_ x y,r) by unfold cZ;rw[h1];simp only;rw[h2];rfl]
      show Calls _ _ _ _ (g6 t R s st _ r w)
      have HH2:=zH h2
      clear h1 h2 hr hrW ih hm
      go_enter Tryz.func185,Tryz.ntmps185
      go_wp2_with fail
      rw[HW.out]
      refine HI.out.mono ?_
      rintro e w1 ⟨v1,a2,rfl,hle2,hd,hr1,hn,hg⟩
      obtain⟨g1,cap1,rfl⟩:=hn.form
      have hlt:=jV HH1.out hd hle hle2
      obtain⟨hlt2,hm2,hd2⟩:=aW hd
      obtain⟨W1,hW1⟩:∃W,w1.alloc (.cells #[.func (.func g1) #[] cap1] 170)=W:=⟨_,rfl⟩
      have hrW1:bT W1 R s a2 st:=by rw[←hW1];exact cP hr1 _
      have HG:Hid (w.grownBy W1 (some R)):=by rw[←hW1];exact bB (HGW.out.trans hg) _
      have HX5:Hid (Boxed W1 w1.heap.size 170 (.func (.func g1) #[] cap1)):=by rw[←hW1];exact Boxed.new w1 _ _
      have hs1:W1.heap.size=w1.heap.size+1:=by rw[←hW1,World.size_alloc]
      have hs0:W.heap.size≤w1.heap.size:=hg.size
      have HN:Hid (bF t W1 W.heap.size x (.func (.func g1) #[] cap1)):=by rw[←hW1];exact hn.below ((Below.refl _ _).alloc (Nat.le_refl _) _)
      replace HX:Hid (Boxed W1 w.heap.size 170 .nilFunc):=by rw[←hW1];exact(HX.out.kept hg (fun e=>by have:=Option.some.inj e;omega)).alloc _
      have HW1:=zH hW1
      clear hr1 hn hg hW1
      have HT:=zH (eO hs hlt2 hm2 hrW1 (al:=⟨#[38,124,62]⟩) (by rw[gA,hm2];exact HM.out))
      have HD2:=zH hd2
      clear hd hrW1 hm2 hd2
      go_wp2_with fail
      rw[HW1.out]
      refine HT.out.mono ?_
      rintro e w2 ⟨rfl,hr2,hg2⟩
      have hs2:W1.heap.size≤w2.heap.size:=hg2.size
      have HI2:=zH (eN HIH.out hr2 (by omega) (by omega) (by rw[HD2.out];exact HH2.out))
      have HG2:=zH (HG.out.trans hg2)
      replace HN:=zH (HN.out.grown hg2 (by omega))
      replace HX:=zH (HX.out.kept hg2 (fun e=>by have:=Option.some.inj e;omega))
      replace HX5:=zH (HX5.out.kept hg2 (fun e=>by have:=Option.some.inj e;omega))
      clear hr2 hg2
      go_wp2_with fail
      refine HI2.out.mono ?_
      rintro e w3 ⟨v3,a3,rfl,hle3,hd3,hr3,hn3,hg3⟩
      obtain⟨g3,cap3,rfl⟩:=hn3.form
      obtain⟨hlt3,hm3,hd4⟩:=aW hd3
      have hs3:w2.heap.size≤w3.heap.size:=hg3.size
      obtain⟨W3,hW3⟩:∃W,w3.alloc (.cells #[.func (.func g3) #[] cap3] 170)=W:=⟨_,rfl⟩
      have hrW3:bT W3 R s a3 st:=by rw[←hW3];exact cP hr3 _
      have hb3:Below w3.heap.size w3 W3:=by rw[←hW3];exact(Below.refl _ _).alloc (Nat.le_refl _) _
      have HG3:Hid (w.grownBy W3 (some R)):=by rw[←hW3];exact bB (HG2.out.trans hg3) _
      have HX7:Hid (Boxed W3 w3.heap.size 170 (.func (.func g3) #[] cap3)):=by rw[←hW3];exact Boxed.new w3 _ _
      have hs4:W3.heap.size=w3.heap.size+1:=by rw[←hW3,World.size_alloc]
      replace HN:=zH ((HN.out.grown hg3 (by omega)).below hb3)
      have HN3:=zH ((bF.low (lo' :=W.heap.size) (by omega) hn3).below hb3)
      replace HX:=zH (show Boxed W3 _ _ _ by rw[←hW3];exact(HX.out.kept hg3 (fun e=>by have:=Option.some.inj e;omega)).alloc _)
      replace HX5:=zH (show Boxed W3 _ _ _ by rw[←hW3];exact(HX5.out.kept hg3 (fun e=>by have:=Option.some.inj e;omega)).alloc _)
      have HW3:=zH hW3
      have HD4:=zH hd4
      clear hd3 hr3 hn3 hg3 hd4 hW3 hb3
      have HT3:=zH (eO hs hlt3 hm3 hrW3 (al:=⟨#[41]⟩) (by rw[oJ,hm3];rfl))
      clear hrW3 hm3
      go_wp2_with fail
      rw[HW3.out]
      refine HT3.out.mono ?_
      rintro e w4 ⟨rfl,hr4,hg4⟩
      have hs5:W3.heap.size≤w4.heap.size:=hg4.size
      have HG4:=zH (HG3.out.trans hg4)
      have HR4:=zH hr4
      have HMK:=zH (WZ t x y _ _ W.heap.size w4 (by omega) (HN.out.grown hg4 (by omega)) (HN3.out.grown hg4 (by omega)))
      have hx5:=(HX5.out.kept hg4 (fun e=>by have:=Option.some.inj e;omega)).cell
      have hx7:=(HX7.out.kept hg4 (fun e=>by have:=Option.some.inj e;omega)).cell
      replace HX:=zH (HX.out.kept hg4 (fun e=>by have:=Option.some.inj e;omega))
      clear hr4 hg4 HN HN3 HX5 HX7
      go_wp2_with (go_at_call 201;refine HMK.out.mono ?_;clear HMK;rintro e w5 ⟨v5,rfl,hn5,hb5⟩;obtain⟨g5,cap5,rfl⟩:=hn5.form;have hx4:=(Boxed.cell (show Boxed w5 _ _ _ from(hb5.block _ HX.out.lt).trans HX.out));have hf4:=(Boxed.frozen (show Boxed w5 _ _ _ from(hb5.block _ HX.out.lt).trans HX.out));have HR5:Hid (bT w5 R s (a3+1) st):=(hb5.block _ (mL HR4.out)).trans HR4.out;have HG5:=zH (fU HG4.out hb5);have HX:=zH (show Boxed w5 _ _ _ from(hb5.block _ HX.out.lt).trans HX.out);have HN5:=zH hn5;clear hn5 hb5)
      have hc:=(HX.out.set (.func (.func g5) #[] cap5)).cell
      have HE:=zH (mJ (B:=w.heap.size) (Nat.le_refl _) hR (by omega) HD4.out HR5.out (by rw[←hsz];exact HN5.out) HG5.out)
      exact⟨rfl,.agg #[.func (.func g5) #[] cap5],by simp[results,Tryz.results185,go_sem,hc],HE.out⟩
    ·rw[show cZ t k ((aG s).drop at_)=none by unfold cZ;rw[h1];simp only;rw[h2];simp only;rw[if_neg he]]
     show Calls _ _ _ _ (cM R w)
     have HH2:=zH h2
     have HEN:=zH he
     clear h1 h2 hr hrW ih hm hm3 he
     go_enter Tryz.func185,Tryz.ntmps185
     go_wp2_with fail
     rw[HW.out]
     refine HI.out.mono ?_
     rintro e w1 ⟨v1,a2,rfl,hle2,hd,hr1,hn,hg⟩
     obtain⟨g1,cap1,rfl⟩:=hn.form
     have hlt:=jV HH1.out hd hle hle2
     obtain⟨hlt2,hm2,hd2⟩:=aW hd
     obtain⟨W1,hW1⟩:∃W,w1.alloc (.cells #[.func (.func g1) #[] cap1] 170)=W:=⟨_,rfl⟩
     have hrW1:bT W1 R s a2 st:=by rw[←hW1];exact cP hr1 _
     have HG:Hid (w.grownBy W1 (some R)):=by rw[←hW1];exact bB (HGW.out.trans hg) _
     have HX5:Hid (Boxed W1 w1.heap.size 170 (.func (.func g1) #[] cap1)):=by rw[←hW1];exact Boxed.new w1 _ _
     have hs1:W1.heap.size=w1.heap.size+1:=by rw[←hW1,World.size_alloc]
     have hs0:W.heap.size≤w1.heap.size:=hg.size
     have HN:Hid (bF t W1 W.heap.size x (.func (.func g1) #[] cap1)):=by rw[←hW1];exact hn.below ((Below.refl _ _).alloc (Nat.le_refl _) _)
     replace HX:Hid (Boxed W1 w.heap.size 170 .nilFunc):=by rw[←hW1];exact(HX.out.kept hg (fun e=>by have:=Option.some.inj e;omega)).alloc _
     have HW1:=zH hW1
     clear hr1 hn hg hW1
     have HT:=zH (eO hs hlt2 hm2 hrW1 (al:=⟨#[38,124,62]⟩) (by rw[gA,hm2];exact HM.out))
     have HD2:=zH hd2
     clear hd hrW1 hm2 hd2
     go_wp2_with fail
     rw[HW1.out]
     refine HT.out.mono ?_
     rintro e w2 ⟨rfl,hr2,hg2⟩
     have hs2:W1.heap.size≤w2.heap.size:=hg2.size
     have HI2:=zH (eN HIH.out hr2 (by omega) (by omega) (by rw[HD2.out];exact HH2.out))
     have HG2:=zH (HG.out.trans hg2)
     replace HN:=zH (HN.out.grown hg2 (by omega))
     replace HX:=zH (HX.out.kept hg2 (fun e=>by have:=Option.some.inj e;omega))
     replace HX5:=zH (HX5.out.kept hg2 (fun e=>by have:=Option.some.inj e;omega))
     clear hr2 hg2
     go_wp2_with fail
     refine HI2.out.mono ?_
     rintro e w3 ⟨v3,a3,rfl,hle3,hd3,hr3,hn3,hg3⟩
     obtain⟨g3,cap3,rfl⟩:=hn3.form
     obtain⟨hlt3,hm3,hd4⟩:=aW hd3
     have hs3:w2.heap.size≤w3.heap.size:=hg3.size
     obtain⟨W3,hW3⟩:∃W,w3.alloc (.cells #[.func (.func g3) #[] cap3] 170)=W:=⟨_,rfl⟩
     have hrW3:bT W3 R s a3 st:=by rw[←hW3];exact cP hr3 _
     have hb3:Below w3.heap.size w3 W3:=by rw[←hW3];exact(Below.refl _ _).alloc (Nat.le_refl _) _
     have HG3:Hid (w.grownBy W3 (some R)):=by rw[←hW3];exact bB (HG2.out.trans hg3) _
     have HX7:Hid (Boxed W3 w3.heap.size 170 (.func (.func g3) #[] cap3)):=by rw[←hW3];exact Boxed.new w3 _ _
     have hs4:W3.heap.size=w3.heap.size+1:=by rw[←hW3,World.size_alloc]
     replace HN:=zH ((HN.out.grown hg3 (by omega)).below hb3)
     have HN3:=zH ((bF.low (lo' :=W.heap.size) (by omega) hn3).below hb3)
     replace HX:=zH (show Boxed W3 _ _ _ by rw[←hW3];exact(HX.out.kept hg3 (fun e=>by have:=Option.some.inj e;omega)).alloc _)
     replace HX5:=zH (show Boxed W3 _ _ _ by rw[←hW3];exact(HX5.out.kept hg3 (fun e=>by have:=Option.some.inj e;omega)).alloc _)
     have HW3:=zH hW3
     have HD4:=zH hd4
     clear hd3 hr3 hn3 hg3 hd4 hW3 hb3
     have HT3:=zH (mK R s st ⟨#[41]⟩ a3 W3 hs hlt3 hrW3 (by rw[oJ,hm3];exact decide_eq_false HEN.out))
     clear hrW3 hm3
     go_wp2_with fail
     rw[HW3.out]
     refine HT3.out.mono ?_
     rintro e w4 ⟨v,rfl,hg4⟩
     exact⟨rfl,v,rfl,HG3.out.trans hg4⟩
end Go.Proofs.YtfhjcacfchkdpaaGreatDoor
