/-
  What the proofs of this seat's statements share (LdcM).
-/
import Derived.Laws.EntriesVeiled
import Derived.Test.YtjilcnehndmoaaaU15
import Derived.Test.YtjilcnehndmoaaaU9

namespace Go.Proofs.Ytjilcnehndmoaaa
open Go.RowKit

/-- The value v serves as the sentence x as long as the blocks from lo on lie as they lie. -/
def LdAt (t : Int) (w : World) (lo : Nat) (x : Ld) (v : Value) : Prop := ∀ W : World, (∀ b, lo ≤ b → b < w.heap.size → W.heap[b]? = w.heap[b]?) → LdRuns t x v W
theorem LdAt.runs {t : Int} {w : World} {lo : Nat} {x : Ld} {v : Value} (h : LdAt t w lo x v) : LdRuns t x v w := h w fun _ _ _ => rfl
theorem LdAt.keep {t : Int} {w w' : World} {lo : Nat} {x : Ld} {v : Value} (h : LdAt t w lo x v) (hs : w.heap.size ≤ w'.heap.size) (hk : ∀ b, lo ≤ b → b < w.heap.size → w'.heap[b]? = w.heap[b]?) : LdAt t w' lo x v :=
  fun W hW => h W fun b h1 h2 => (hW b h1 (by omega)).trans (hk b h1 h2)
theorem LdAt.below {t : Int} {w w' : World} {lo : Nat} {x : Ld} {v : Value} (h : LdAt t w lo x v) (hb : Below w.heap.size w w') : LdAt t w' lo x v :=
  h.keep hb.size fun b _ hlt => hb.block b hlt
theorem LdAt.grown {t : Int} {w w' : World} {lo R : Nat} {x : Ld} {v : Value} (h : LdAt t w lo x v) (hg : w.grownBy w' (some R)) (hR : R < lo) : LdAt t w' lo x v :=
  h.keep hg.size fun b hl hlt => hg.block b hlt (fun e => by cases e; omega)
theorem LdAt.low {t : Int} {w : World} {lo lo' : Nat} {x : Ld} {v : Value} (hlo : lo' ≤ lo) (h : LdAt t w lo x v) : LdAt t w lo' x v :=
  fun W hW => h W fun b h1 h2 => hW b (by omega) h2
theorem LdAt.form {t : Int} {w : World} {lo : Nat} {x : Ld} {v : Value} (h : LdAt t w lo x v) : ∃ g cap, v = .func (.func g) #[] cap := by
  obtain ⟨g, cap, e, _⟩ := h.runs
  exact ⟨g, cap, e⟩
theorem box_lies {w W : World} {lo b : Nat} {T : TypeId} {v : Value} (h : Boxed w b T v) (hl : lo ≤ b) (hW : ∀ b, lo ≤ b → b < w.heap.size → W.heap[b]? = w.heap[b]?) : Boxed W b T v := (hW b hl h.lt).trans h
theorem LdAt.no {t : Int} {w : World} {lo b : Nat} {x : Ld} {v : Value} (hb : Boxed w b 43 v) (hl : lo ≤ b) (h : LdAt t w lo x v) :
    LdAt t w lo (.no x) (.func (.func 69) #[] #[.pointer (some ⟨b, 0, none⟩)]) := fun W hW =>
  ⟨_, _, rfl, enters_of Try.func69 (by kernel_rfl) rfl, fun s h0 ha => iChgNot t x b v W (box_lies hb hl hW) (h W hW) s h0 ha⟩
theorem LdAt.word {t : Int} {w : World} {lo b : Nat} {x : Ld} {so : Int} (hb : Boxed w b 3 (.int .i64 so)) (hl : lo ≤ b) (h : ∀ s, 0 ≤ s → s ≤ allOf t → chgI t x s = some (bits .and .i64 s so)) :
    LdAt t w lo x (.func (.func 74) #[] #[.pointer (some ⟨b, 0, none⟩)]) := fun W hW =>
  ⟨_, _, rfl, enters_of Try.func74 (by kernel_rfl) rfl, fun s h0 ha => iChgWord t x so b W (box_lies hb hl hW) h s h0 ha⟩
theorem LdAt.pre {t : Int} {w : World} {lo b b2 : Nat} {x y : Ld} {v v2 : Value} (hb : Boxed w b 43 v) (hl : lo ≤ b) (h : LdAt t w lo x v) (hb2 : Boxed w b2 43 v2) (hl2 : lo ≤ b2) (h2 : LdAt t w lo y v2) :
    LdAt t w lo (.pre x y) (.func (.func 70) #[] #[.pointer (some ⟨b, 0, none⟩), .pointer (some ⟨b2, 0, none⟩)]) := fun W hW =>
  ⟨_, _, rfl, enters_of Try.func70 (by kernel_rfl) rfl, fun s h0 ha => iChgPre t x y b b2 v v2 W (box_lies hb hl hW) (box_lies hb2 hl2 hW) (h W hW) (h2 W hW) s h0 ha⟩
theorem LdAt.and_ {t : Int} {w : World} {lo b b2 : Nat} {x y : Ld} {v v2 : Value} (hb : Boxed w b 43 v) (hl : lo ≤ b) (h : LdAt t w lo x v) (hb2 : Boxed w b2 43 v2) (hl2 : lo ≤ b2) (h2 : LdAt t w lo y v2) :
    LdAt t w lo (.and_ x y) (.func (.func 80) #[] #[.pointer (some ⟨b, 0, none⟩), .pointer (some ⟨b2, 0, none⟩)]) := fun W hW =>
  ⟨_, _, rfl, enters_of Try.func80 (by kernel_rfl) rfl, fun s h0 ha => iChgAnd t x y b b2 v v2 W (box_lies hb hl hW) (box_lies hb2 hl2 hW) (h W hW) (h2 W hW) s h0 ha⟩
theorem LdAt.or_ {t : Int} {w : World} {lo b b2 : Nat} {x y : Ld} {v v2 : Value} (hb : Boxed w b 43 v) (hl : lo ≤ b) (h : LdAt t w lo x v) (hb2 : Boxed w b2 43 v2) (hl2 : lo ≤ b2) (h2 : LdAt t w lo y v2) :
    LdAt t w lo (.or_ x y) (.func (.func 81) #[] #[.pointer (some ⟨b, 0, none⟩), .pointer (some ⟨b2, 0, none⟩)]) := fun W hW =>
  ⟨_, _, rfl, enters_of Try.func81 (by kernel_rfl) rfl, fun s h0 ha => iChgOr t x y b b2 v v2 W (box_lies hb hl hW) (box_lies hb2 hl2 hW) (h W hW) (h2 W hW) s h0 ha⟩
theorem LdAt.if_ {t : Int} {w : World} {lo b b2 : Nat} {x y : Ld} {v v2 : Value} (hb : Boxed w b 43 v) (hl : lo ≤ b) (h : LdAt t w lo x v) (hb2 : Boxed w b2 43 v2) (hl2 : lo ≤ b2) (h2 : LdAt t w lo y v2) :
    LdAt t w lo (.if_ x y) (.func (.func 82) #[] #[.pointer (some ⟨b, 0, none⟩), .pointer (some ⟨b2, 0, none⟩)]) := fun W hW =>
  ⟨_, _, rfl, enters_of Try.func82 (by kernel_rfl) rfl, fun s h0 ha => iChgIf t x y b b2 v v2 W (box_lies hb hl hW) (box_lies hb2 hl2 hW) (h W hW) (h2 W hW) s h0 ha⟩

/-- A sign has been made. -/
def MkPost (t : Int) (lo : Nat) (x : Ld) (w : World) (e : Ending) (w' : World) : Prop := ∃ v, e = .returned (.agg #[v]) ∧ LdAt t w' lo x v ∧ Below w.heap.size w w'

theorem made1 {t : Int} {x : Ld} {u : Value} {lo : Nat} {w : World} {o : Obj} (h : LdAt t w lo x u) (hlo : lo ≤ w.heap.size) :
    MkPost t lo (.no x) w (.returned (.agg #[.func (.func 69) #[] #[.pointer (some ⟨w.heap.size, 0, none⟩)]])) ((w.alloc (.cells #[u] 43)).alloc o) := by
  have hb : Below w.heap.size w ((w.alloc (.cells #[u] 43)).alloc o) := ((Below.refl _ _).alloc (Nat.le_refl _) _).alloc (by simp) _
  exact ⟨_, rfl, LdAt.no ((Boxed.new w 43 u).alloc o) hlo (h.below hb), hb⟩
set_option maxRecDepth 100000 in
set_option maxHeartbeats 4000000 in
theorem iMkNot (t : Int) (x : Ld) (u : Value) (lo : Nat) (w : World) (hlo : lo ≤ w.heap.size) (h : LdAt t w lo x u) :
    Calls Try.prog 61 #[.agg #[u]] w (MkPost t lo (.no x) w) := by
  obtain ⟨g, cap, rfl⟩ := h.form
  have H := Lib.hid h
  have hmf : ∀ (fn : Fn) (first cap : Array Value) (w : World), (Instr.makeFunc fn first cap).run Try.prog w = .ok (.func fn first cap) w := fun _ _ _ _ => rfl
  clear h
  go_enter Try.func61, Try.ntmps61
  go_wp2_with fail
  have hc : ((w.alloc (.cells #[.func (.func g) #[] cap] 43)).alloc (.cells #[.func (.func 69) #[] #[.pointer (some ⟨w.heap.size, 0, none⟩)]] 43)).cell? ⟨w.heap.size + 1, 0, none⟩ = some (.func (.func 69) #[] #[.pointer (some ⟨w.heap.size, 0, none⟩)]) := by
    have := (Boxed.new (w.alloc (.cells #[.func (.func g) #[] cap] 43)) 43 (.func (.func 69) #[] #[.pointer (some ⟨w.heap.size, 0, none⟩)])).cell
    rwa [World.size_alloc] at this
  exact ⟨rfl, .agg #[.func (.func 69) #[] #[.pointer (some ⟨w.heap.size, 0, none⟩)]], by simp [results, Try.results61, go_sem, hc], made1 H.out hlo⟩

theorem made_word {t : Int} {x : Ld} {so : Int} {lo : Nat} {w : World} {o : Obj} (h : ∀ s, 0 ≤ s → s ≤ allOf t → chgI t x s = some (bits .and .i64 s so)) (hlo : lo ≤ w.heap.size) :
    MkPost t lo x w (.returned (.agg #[.func (.func 74) #[] #[.pointer (some ⟨w.heap.size, 0, none⟩)]])) ((w.alloc (.cells #[.int .i64 so] 3)).alloc o) := by
  have hb : Below w.heap.size w ((w.alloc (.cells #[.int .i64 so] 3)).alloc o) := ((Below.refl _ _).alloc (Nat.le_refl _) _).alloc (by simp) _
  exact ⟨_, rfl, LdAt.word ((Boxed.new w 3 (.int .i64 so)).alloc o) hlo h, hb⟩
set_option maxRecDepth 100000 in
set_option maxHeartbeats 4000000 in
theorem iMkWord (t : Int) (x : Ld) (so : Int) (lo : Nat) (w : World) (hlo : lo ≤ w.heap.size) (h : ∀ s, 0 ≤ s → s ≤ allOf t → chgI t x s = some (bits .and .i64 s so)) :
    Calls Try.prog 64 #[.int .i64 so] w (MkPost t lo x w) := by
  have H := Lib.hid h
  have hmf : ∀ (fn : Fn) (first cap : Array Value) (w : World), (Instr.makeFunc fn first cap).run Try.prog w = .ok (.func fn first cap) w := fun _ _ _ _ => rfl
  clear h
  go_enter Try.func64, Try.ntmps64
  go_wp2_with fail
  have hc : ((w.alloc (.cells #[.int .i64 so] 3)).alloc (.cells #[.func (.func 74) #[] #[.pointer (some ⟨w.heap.size, 0, none⟩)]] 43)).cell? ⟨w.heap.size + 1, 0, none⟩ = some (.func (.func 74) #[] #[.pointer (some ⟨w.heap.size, 0, none⟩)]) := by
    have := (Boxed.new (w.alloc (.cells #[.int .i64 so] 3)) 43 (.func (.func 74) #[] #[.pointer (some ⟨w.heap.size, 0, none⟩)])).cell
    rwa [World.size_alloc] at this
  exact ⟨rfl, .agg #[.func (.func 74) #[] #[.pointer (some ⟨w.heap.size, 0, none⟩)]], by simp [results, Try.results64, go_sem, hc], made_word H.out hlo⟩

theorem made_pre {t : Int} {x y : Ld} {u u2 : Value} {lo : Nat} {w : World} {o : Obj} (h : LdAt t w lo x u) (h2 : LdAt t w lo y u2) (hlo : lo ≤ w.heap.size) :
    MkPost t lo (.pre x y) w (.returned (.agg #[.func (.func 70) #[] #[.pointer (some ⟨w.heap.size, 0, none⟩), .pointer (some ⟨w.heap.size + 1, 0, none⟩)]])) (((w.alloc (.cells #[u] 43)).alloc (.cells #[u2] 43)).alloc o) := by
  have hb : Below w.heap.size w (((w.alloc (.cells #[u] 43)).alloc (.cells #[u2] 43)).alloc o) := (((Below.refl _ _).alloc (Nat.le_refl _) _).alloc (by simp) _).alloc (by simp; omega) _
  have hx2 : Boxed ((w.alloc (.cells #[u] 43)).alloc (.cells #[u2] 43)) (w.heap.size + 1) 43 u2 := by
    have := Boxed.new (w.alloc (.cells #[u] 43)) 43 u2
    rwa [World.size_alloc] at this
  exact ⟨_, rfl, LdAt.pre (((Boxed.new w 43 u).alloc _).alloc o) hlo (h.below hb) (hx2.alloc o) (by omega) (h2.below hb), hb⟩
set_option maxRecDepth 100000 in
set_option maxHeartbeats 4000000 in
theorem iMkPre (t : Int) (x y : Ld) (u u2 : Value) (lo : Nat) (w : World) (hlo : lo ≤ w.heap.size) (h : LdAt t w lo x u) (h2 : LdAt t w lo y u2) :
    Calls Try.prog 62 #[.agg #[u], .agg #[u2]] w (MkPost t lo (.pre x y) w) := by
  obtain ⟨g, cap, rfl⟩ := h.form
  obtain ⟨g2, cap2, rfl⟩ := h2.form
  have H := Lib.hid h
  have H2 := Lib.hid h2
  have hmf : ∀ (fn : Fn) (first cap : Array Value) (w : World), (Instr.makeFunc fn first cap).run Try.prog w = .ok (.func fn first cap) w := fun _ _ _ _ => rfl
  clear h h2
  go_enter Try.func62, Try.ntmps62
  go_wp2_with fail
  have hc : (((w.alloc (.cells #[.func (.func g) #[] cap] 43)).alloc (.cells #[.func (.func g2) #[] cap2] 43)).alloc (.cells #[.func (.func 70) #[] #[.pointer (some ⟨w.heap.size, 0, none⟩), .pointer (some ⟨w.heap.size + 1, 0, none⟩)]] 43)).cell? ⟨w.heap.size + 1 + 1, 0, none⟩ = some (.func (.func 70) #[] #[.pointer (some ⟨w.heap.size, 0, none⟩), .pointer (some ⟨w.heap.size + 1, 0, none⟩)]) := by
    have := (Boxed.new ((w.alloc (.cells #[.func (.func g) #[] cap] 43)).alloc (.cells #[.func (.func g2) #[] cap2] 43)) 43 (.func (.func 70) #[] #[.pointer (some ⟨w.heap.size, 0, none⟩), .pointer (some ⟨w.heap.size + 1, 0, none⟩)])).cell
    rwa [World.size_alloc, World.size_alloc] at this
  exact ⟨rfl, .agg #[.func (.func 70) #[] #[.pointer (some ⟨w.heap.size, 0, none⟩), .pointer (some ⟨w.heap.size + 1, 0, none⟩)]], by simp [results, Try.results62, go_sem, hc], made_pre H.out H2.out hlo⟩
theorem made_and_ {t : Int} {x y : Ld} {u u2 : Value} {lo : Nat} {w : World} {o : Obj} (h : LdAt t w lo x u) (h2 : LdAt t w lo y u2) (hlo : lo ≤ w.heap.size) :
    MkPost t lo (.and_ x y) w (.returned (.agg #[.func (.func 80) #[] #[.pointer (some ⟨w.heap.size, 0, none⟩), .pointer (some ⟨w.heap.size + 1, 0, none⟩)]])) (((w.alloc (.cells #[u] 43)).alloc (.cells #[u2] 43)).alloc o) := by
  have hb : Below w.heap.size w (((w.alloc (.cells #[u] 43)).alloc (.cells #[u2] 43)).alloc o) := (((Below.refl _ _).alloc (Nat.le_refl _) _).alloc (by simp) _).alloc (by simp; omega) _
  have hx2 : Boxed ((w.alloc (.cells #[u] 43)).alloc (.cells #[u2] 43)) (w.heap.size + 1) 43 u2 := by
    have := Boxed.new (w.alloc (.cells #[u] 43)) 43 u2
    rwa [World.size_alloc] at this
  exact ⟨_, rfl, LdAt.and_ (((Boxed.new w 43 u).alloc _).alloc o) hlo (h.below hb) (hx2.alloc o) (by omega) (h2.below hb), hb⟩
set_option maxRecDepth 100000 in
set_option maxHeartbeats 4000000 in
theorem iMkAnd (t : Int) (x y : Ld) (u u2 : Value) (lo : Nat) (w : World) (hlo : lo ≤ w.heap.size) (h : LdAt t w lo x u) (h2 : LdAt t w lo y u2) :
    Calls Try.prog 71 #[.agg #[u], .agg #[u2]] w (MkPost t lo (.and_ x y) w) := by
  obtain ⟨g, cap, rfl⟩ := h.form
  obtain ⟨g2, cap2, rfl⟩ := h2.form
  have H := Lib.hid h
  have H2 := Lib.hid h2
  have hmf : ∀ (fn : Fn) (first cap : Array Value) (w : World), (Instr.makeFunc fn first cap).run Try.prog w = .ok (.func fn first cap) w := fun _ _ _ _ => rfl
  clear h h2
  go_enter Try.func71, Try.ntmps71
  go_wp2_with fail
  have hc : (((w.alloc (.cells #[.func (.func g) #[] cap] 43)).alloc (.cells #[.func (.func g2) #[] cap2] 43)).alloc (.cells #[.func (.func 80) #[] #[.pointer (some ⟨w.heap.size, 0, none⟩), .pointer (some ⟨w.heap.size + 1, 0, none⟩)]] 43)).cell? ⟨w.heap.size + 1 + 1, 0, none⟩ = some (.func (.func 80) #[] #[.pointer (some ⟨w.heap.size, 0, none⟩), .pointer (some ⟨w.heap.size + 1, 0, none⟩)]) := by
    have := (Boxed.new ((w.alloc (.cells #[.func (.func g) #[] cap] 43)).alloc (.cells #[.func (.func g2) #[] cap2] 43)) 43 (.func (.func 80) #[] #[.pointer (some ⟨w.heap.size, 0, none⟩), .pointer (some ⟨w.heap.size + 1, 0, none⟩)])).cell
    rwa [World.size_alloc, World.size_alloc] at this
  exact ⟨rfl, .agg #[.func (.func 80) #[] #[.pointer (some ⟨w.heap.size, 0, none⟩), .pointer (some ⟨w.heap.size + 1, 0, none⟩)]], by simp [results, Try.results71, go_sem, hc], made_and_ H.out H2.out hlo⟩
theorem made_or_ {t : Int} {x y : Ld} {u u2 : Value} {lo : Nat} {w : World} {o : Obj} (h : LdAt t w lo x u) (h2 : LdAt t w lo y u2) (hlo : lo ≤ w.heap.size) :
    MkPost t lo (.or_ x y) w (.returned (.agg #[.func (.func 81) #[] #[.pointer (some ⟨w.heap.size, 0, none⟩), .pointer (some ⟨w.heap.size + 1, 0, none⟩)]])) (((w.alloc (.cells #[u] 43)).alloc (.cells #[u2] 43)).alloc o) := by
  have hb : Below w.heap.size w (((w.alloc (.cells #[u] 43)).alloc (.cells #[u2] 43)).alloc o) := (((Below.refl _ _).alloc (Nat.le_refl _) _).alloc (by simp) _).alloc (by simp; omega) _
  have hx2 : Boxed ((w.alloc (.cells #[u] 43)).alloc (.cells #[u2] 43)) (w.heap.size + 1) 43 u2 := by
    have := Boxed.new (w.alloc (.cells #[u] 43)) 43 u2
    rwa [World.size_alloc] at this
  exact ⟨_, rfl, LdAt.or_ (((Boxed.new w 43 u).alloc _).alloc o) hlo (h.below hb) (hx2.alloc o) (by omega) (h2.below hb), hb⟩
set_option maxRecDepth 100000 in
set_option maxHeartbeats 4000000 in
theorem iMkOr (t : Int) (x y : Ld) (u u2 : Value) (lo : Nat) (w : World) (hlo : lo ≤ w.heap.size) (h : LdAt t w lo x u) (h2 : LdAt t w lo y u2) :
    Calls Try.prog 72 #[.agg #[u], .agg #[u2]] w (MkPost t lo (.or_ x y) w) := by
  obtain ⟨g, cap, rfl⟩ := h.form
  obtain ⟨g2, cap2, rfl⟩ := h2.form
  have H := Lib.hid h
  have H2 := Lib.hid h2
  have hmf : ∀ (fn : Fn) (first cap : Array Value) (w : World), (Instr.makeFunc fn first cap).run Try.prog w = .ok (.func fn first cap) w := fun _ _ _ _ => rfl
  clear h h2
  go_enter Try.func72, Try.ntmps72
  go_wp2_with fail
  have hc : (((w.alloc (.cells #[.func (.func g) #[] cap] 43)).alloc (.cells #[.func (.func g2) #[] cap2] 43)).alloc (.cells #[.func (.func 81) #[] #[.pointer (some ⟨w.heap.size, 0, none⟩), .pointer (some ⟨w.heap.size + 1, 0, none⟩)]] 43)).cell? ⟨w.heap.size + 1 + 1, 0, none⟩ = some (.func (.func 81) #[] #[.pointer (some ⟨w.heap.size, 0, none⟩), .pointer (some ⟨w.heap.size + 1, 0, none⟩)]) := by
    have := (Boxed.new ((w.alloc (.cells #[.func (.func g) #[] cap] 43)).alloc (.cells #[.func (.func g2) #[] cap2] 43)) 43 (.func (.func 81) #[] #[.pointer (some ⟨w.heap.size, 0, none⟩), .pointer (some ⟨w.heap.size + 1, 0, none⟩)])).cell
    rwa [World.size_alloc, World.size_alloc] at this
  exact ⟨rfl, .agg #[.func (.func 81) #[] #[.pointer (some ⟨w.heap.size, 0, none⟩), .pointer (some ⟨w.heap.size + 1, 0, none⟩)]], by simp [results, Try.results72, go_sem, hc], made_or_ H.out H2.out hlo⟩
theorem made_if_ {t : Int} {x y : Ld} {u u2 : Value} {lo : Nat} {w : World} {o : Obj} (h : LdAt t w lo x u) (h2 : LdAt t w lo y u2) (hlo : lo ≤ w.heap.size) :
    MkPost t lo (.if_ x y) w (.returned (.agg #[.func (.func 82) #[] #[.pointer (some ⟨w.heap.size, 0, none⟩), .pointer (some ⟨w.heap.size + 1, 0, none⟩)]])) (((w.alloc (.cells #[u] 43)).alloc (.cells #[u2] 43)).alloc o) := by
  have hb : Below w.heap.size w (((w.alloc (.cells #[u] 43)).alloc (.cells #[u2] 43)).alloc o) := (((Below.refl _ _).alloc (Nat.le_refl _) _).alloc (by simp) _).alloc (by simp; omega) _
  have hx2 : Boxed ((w.alloc (.cells #[u] 43)).alloc (.cells #[u2] 43)) (w.heap.size + 1) 43 u2 := by
    have := Boxed.new (w.alloc (.cells #[u] 43)) 43 u2
    rwa [World.size_alloc] at this
  exact ⟨_, rfl, LdAt.if_ (((Boxed.new w 43 u).alloc _).alloc o) hlo (h.below hb) (hx2.alloc o) (by omega) (h2.below hb), hb⟩
set_option maxRecDepth 100000 in
set_option maxHeartbeats 4000000 in
theorem iMkIf (t : Int) (x y : Ld) (u u2 : Value) (lo : Nat) (w : World) (hlo : lo ≤ w.heap.size) (h : LdAt t w lo x u) (h2 : LdAt t w lo y u2) :
    Calls Try.prog 73 #[.agg #[u], .agg #[u2]] w (MkPost t lo (.if_ x y) w) := by
  obtain ⟨g, cap, rfl⟩ := h.form
  obtain ⟨g2, cap2, rfl⟩ := h2.form
  have H := Lib.hid h
  have H2 := Lib.hid h2
  have hmf : ∀ (fn : Fn) (first cap : Array Value) (w : World), (Instr.makeFunc fn first cap).run Try.prog w = .ok (.func fn first cap) w := fun _ _ _ _ => rfl
  clear h h2
  go_enter Try.func73, Try.ntmps73
  go_wp2_with fail
  have hc : (((w.alloc (.cells #[.func (.func g) #[] cap] 43)).alloc (.cells #[.func (.func g2) #[] cap2] 43)).alloc (.cells #[.func (.func 82) #[] #[.pointer (some ⟨w.heap.size, 0, none⟩), .pointer (some ⟨w.heap.size + 1, 0, none⟩)]] 43)).cell? ⟨w.heap.size + 1 + 1, 0, none⟩ = some (.func (.func 82) #[] #[.pointer (some ⟨w.heap.size, 0, none⟩), .pointer (some ⟨w.heap.size + 1, 0, none⟩)]) := by
    have := (Boxed.new ((w.alloc (.cells #[.func (.func g) #[] cap] 43)).alloc (.cells #[.func (.func g2) #[] cap2] 43)) 43 (.func (.func 82) #[] #[.pointer (some ⟨w.heap.size, 0, none⟩), .pointer (some ⟨w.heap.size + 1, 0, none⟩)])).cell
    rwa [World.size_alloc, World.size_alloc] at this
  exact ⟨rfl, .agg #[.func (.func 82) #[] #[.pointer (some ⟨w.heap.size, 0, none⟩), .pointer (some ⟨w.heap.size + 1, 0, none⟩)]], by simp [results, Try.results73, go_sem, hc], made_if_ H.out H2.out hlo⟩
end Go.Proofs.Ytjilcnehndmoaaa
