/-
  What the proofs of this seat's statements share (Supp, Word, Deny, Sign).
-/
import Derived.RangeFuncBox
import Derived.Outline
import Derived.Test.YtmdogidflaplkaaGreatU8

namespace Go.Proofs.YtmdogidflaplkaaGreat
open Go.RowKit Go.Shelf
attribute [local go_sem] Oper.semAt_some

/-- The slice at ⟨b, o⟩ of n bools tells f of every set within s. -/
def Told (w : World) (b o n : Nat) (s : Int) (f : Int → Bool) : Prop :=
  b < w.heap.size ∧ ∀ u : Int, 0 ≤ u → withinB u s = true → u < n ∧ w.cell? ⟨b, o + u.toNat, none⟩ = some (.bool (f u))
theorem Told.below {w w' : World} {b o n : Nat} {s : Int} {f : Int → Bool} (h : Told w b o n s f) (hb : Below w.heap.size w w') : Told w' b o n s f :=
  ⟨Nat.lt_of_lt_of_le h.1 hb.size, fun u h0 hu => ⟨(h.2 u h0 hu).1, (hb.cell (p := ⟨b, o + u.toNat, none⟩) h.1).trans (h.2 u h0 hu).2⟩⟩
theorem Told.sub {w : World} {b o n : Nat} {s s2 : Int} {f : Int → Bool} (h : Told w b o n s f) (hs0 : 0 ≤ s2) (hs : withinB s2 s = true) : Told w b o n s2 f :=
  ⟨h.1, fun u h0 hu => h.2 u h0 (within_trans h0 hs0 hu hs)⟩

theorem iSetsWithin (n : Nat) (s : Int) (w : World) :
    CallsIn Fence.wide n Tryz.prog 109 #[.int .i64 s] w fun e w' => e = .returned (.func (.func 118) #[] #[.pointer (some ⟨w.heap.size, 0, none⟩)]) ∧ w' = w.alloc (.cells #[.int .i64 s] 3) := by
  refine callsIn_of_wp Tryz.func109 rfl trivial ?_ rfl
  simp only [Tryz.ntmps109, List.size_toArray, List.length_cons, List.length_nil, Nat.reduceAdd, Nat.reduceSub, Array.replicate_succ, Array.replicate_zero, List.push_toArray, List.append_toArray, List.nil_append, List.cons_append]
  gi_wp2
  go_ret
  exact ⟨rfl, rfl⟩
theorem iSets_stops (n : Nat) (hn : 1 ≤ n) (Bn : Nat) (s : Int) (hs0 : 0 ≤ s) (hs : s < 256) (w : World) (hBn : Bn < w.heap.size) (hc : w.cell? ⟨Bn, 0, none⟩ = some (.int .i64 s)) :
    SeqStopsK Fence.wide n Tryz.prog 118 #[.pointer (some ⟨Bn, 0, none⟩)] (fun x : Sub s => #[Value.int .i64 x.1]) (fun W W' => W'.heap[Bn]? = W.heap[Bn]?) (FullS s) (fun _ => True) (s + 1).toNat w := fun l J Jx W hW _ _ hY h0 =>
  iSetsWithin1 n hn l Bn s hs0 hs J Jx hY W ((hW.cell (p := ⟨Bn, 0, none⟩) hBn).trans hc) h0
theorem kept_t {Bn : Nat} {A B C : World} (h : B.heap[Bn]? = A.heap[Bn]?) (k : C.heap[Bn]? = B.heap[Bn]?) : C.heap[Bn]? = A.heap[Bn]? := k.trans h
theorem kept_b {Bn : Nat} {w : World} (hn : Bn < w.heap.size) (W : World) (l : Nat) (o o' : Obj) (hl : w.heap.size ≤ l) (_ : W.heap[l]? = some o) (_ : o.isCells = false) (_ : o.isWalk = false) : (W.putObj l o').heap[Bn]? = W.heap[Bn]? :=
  World.putObj_heap_other (by omega)

def ifB (s : Int) (f g : Int → Bool) : Bool := (List.range (s.toNat + 1)).all fun u : Nat => !withinB (u : Int) s || !f (u : Int) || g (u : Int)
theorem ifB_miss {s : Int} {f g : Int → Bool} (u : Sub s) (h1 : f u.1 = true) (h2 : g u.1 = false) : ifB s f g = false := by
  unfold ifB
  rw [List.all_eq_false]
  refine ⟨u.1.toNat, List.mem_range.2 (by have := u.2; omega), ?_⟩
  rw [Int.toNat_of_nonneg u.2.1, u.2.2.2, h1, h2]; decide
theorem ifB_full {s : Int} {f g : Int → Bool} (hs : 0 ≤ s) {xs : List (Sub s)} (hx : FullS s xs) (h : ∀ y ∈ xs, (f y.1 && !g y.1) = false) : ifB s f g = true := by
  unfold ifB
  rw [List.all_eq_true]
  intro u hu
  rw [List.mem_range] at hu
  cases hw : withinB (u : Int) s
  · rfl
  · have := h ⟨(u : Int), by omega, within_le hw hs, hw⟩ (hx _)
    revert this
    cases f (u : Int) <;> cases g (u : Int) <;> simp

theorem pre_snoc {s : Int} {f g : Int → Bool} {pre : List (Sub s)} {x : Sub s} (h : ∀ y ∈ pre, (f y.1 && !g y.1) = false) (hx : (f x.1 && !g x.1) = false) : ∀ y ∈ pre ++ [x], (f y.1 && !g y.1) = false := by
  intro y hy
  rcases List.mem_append.1 hy with e | e
  · exact h y e
  · rw [List.mem_singleton] at e; subst e; exact hx
theorem box_keep {W W' : World} {row : Option Nat} {B : Nat} {t : TypeId} {v : Value} (h : Boxed W B t v) (hg : W.grownBy W' row) (hr : ∀ r, row = some r → ∃ o : Obj, W.heap[r]? = some o ∧ o.isCells = false) : Boxed W' B t v :=
  h.kept hg (fun e => by obtain ⟨o, ho, hc⟩ := hr B e.symm; rw [show W.heap[B]? = _ from h] at ho; cases ho; cases hc)
theorem Boxed.below {W W' : World} {B : Nat} {t : TypeId} {v : Value} (h : Boxed W B t v) (hb : Below W.heap.size W W') : Boxed W' B t v := (hb.block B h.lt).trans h
theorem box_putObj {W : World} {B : Nat} {t : TypeId} {v : Value} (h : Boxed W B t v) {D : Nat} {o : Obj} (o' : Obj) (hD : W.heap[D]? = some o) (ho : o.isCells = false) : Boxed (W.putObj D o') B t v :=
  box_keep h (grownBy_putObj' W D o') (fun r e => by cases e; exact ⟨o, hD, ho⟩)

set_option maxRecDepth 100000 in
set_option maxHeartbeats 4000000 in
theorem iCarriesOver (s : Int) (b1 o1 n1 c1 b2 o2 n2 c2 : Nat) (f g : Int → Bool) (w : World) (hs0 : 0 ≤ s) (hs : s < 256) (h1 : Told w b1 o1 n1 s f) (h2 : Told w b2 o2 n2 s g) :
    Calls Tryz.prog 120 #[.int .i64 s, .slice (some ⟨b1, o1, none⟩) n1 c1, .slice (some ⟨b2, o2, none⟩) n2 c2] w fun e w' => e = .returned (.bool (ifB s f g)) ∧ Below w.heap.size w w' := by
  refine (callsIn_wide (n := 5)).1 ?_
  have HT1 := Lib.hid h1
  have HT2 := Lib.hid h2
  clear h1 h2
  refine callsIn_of_wp_marks Tryz.func120 rfl trivial ?_ rfl
  simp only [Tryz.ntmps120, List.size_toArray, List.length_cons, List.length_nil, Nat.reduceAdd, Nat.reduceSub, Array.replicate_succ, Array.replicate_zero, List.push_toArray, List.append_toArray, List.nil_append, List.cons_append]
  gi_wp2_with (refine ⟨trivial, ?_⟩; gi_at_call 109; refine (iSetsWithin _ _ _).mono ?_; rintro e w' ⟨rfl, rfl⟩)
  have x0 := Boxed.new w 116 (.slice (some ⟨b1, o1, none⟩) n1 c1)
  have x1 := Boxed.new (w.alloc (.cells #[.slice (some ⟨b1, o1, none⟩) n1 c1] 116)) 116 (.slice (some ⟨b2, o2, none⟩) n2 c2)
  have x2 := Boxed.new ((w.alloc (.cells #[.slice (some ⟨b1, o1, none⟩) n1 c1] 116)).alloc (.cells #[.slice (some ⟨b2, o2, none⟩) n2 c2] 116)) 4 (.bool false)
  have x3 := Boxed.new (((w.alloc (.cells #[.slice (some ⟨b1, o1, none⟩) n1 c1] 116)).alloc (.cells #[.slice (some ⟨b2, o2, none⟩) n2 c2] 116)).alloc (.cells #[.bool false] 4)) 3 (.int .i64 s)
  simp only [World.size_alloc] at x1 x2 x3
  have hB0 : Below w.heap.size w ((((w.alloc (.cells #[.slice (some ⟨b1, o1, none⟩) n1 c1] 116)).alloc (.cells #[.slice (some ⟨b2, o2, none⟩) n2 c2] 116)).alloc (.cells #[.bool false] 4)).alloc (.cells #[.int .i64 s] 3)) := ((((Below.refl _ w).alloc (Nat.le_refl _) _).alloc (by simp) _).alloc (by simp; omega) _).alloc (by simp; omega) _
  refine wpIn_rangeFunc_ownF rfl (by decide) (gf := 118) (lb := #[.pointer (some ⟨w.heap.size + 1 + 1 + 1, 0, none⟩)]) rfl trivial (enters_of Tryz.func118 (by kernel_rfl) rfl)
    (iSets_stops 4 (by decide) (w.heap.size + 1 + 1 + 1) s hs0 hs _ (by simp) x3.cell) (fun h k => kept_t h k) (kept_b (by simp)) (Below.refl _ _) (fun _ => rfl)
    (fun pre W => ((∀ y ∈ pre, (f y.1 && !g y.1) = false) ∧ Boxed W w.heap.size 116 (.slice (some ⟨b1, o1, none⟩) n1 c1) ∧ Boxed W (w.heap.size + 1) 116 (.slice (some ⟨b2, o2, none⟩) n2 c2) ∧ Boxed W (w.heap.size + 1 + 1) 4 (.bool false)) ∧ Below w.heap.size w W)
    (fun c pre W => (c = .ret ∧ ifB s f g = false ∧ Boxed W (w.heap.size + 1 + 1) 4 (.bool false)) ∧ Below w.heap.size w W)
    (OwnFrom.and (Own.from (fun s A B row hs hg hr => ⟨hs.1, box_keep hs.2.1 hg hr, box_keep hs.2.2.1 hg hr, box_keep hs.2.2.2 hg hr⟩) _) (ownFrom_below (Nat.le_refl _) (by simp; omega)))
    (fun c => OwnFrom.and (Own.from (fun s A B row hs hg hr => ⟨hs.1, hs.2.1, box_keep hs.2.2 hg hr⟩) _) (ownFrom_below (Nat.le_refl _) (by simp; omega)))
    ⟨⟨by simp, ((x0.alloc _).alloc _).alloc _, (x1.alloc _).alloc _, x2.alloc _⟩, hB0⟩
    (fun x => { tmps := #[.int .i64 s, .slice (some ⟨b1, o1, none⟩) n1 c1, .slice (some ⟨b2, o2, none⟩) n2 c2, undef, .pointer (some ⟨w.heap.size, 0, none⟩), .pointer (some ⟨w.heap.size + 1, 0, none⟩), .pointer (some ⟨w.heap.size + 1 + 1, 0, none⟩), .int .i64 x.1, .int .i64 s, .func (.func 118) #[] #[.pointer (some ⟨w.heap.size + 1 + 1 + 1, 0, none⟩)], .int .i64 x.1, undef, undef, undef, undef, undef, undef, undef, undef, undef, undef, undef], defers := [] }) ?assign ?body ?done ?stop
  case assign =>
    intro l x W K hK
    gi_wp2
    exact hK
  case body =>
    rintro l pre x W ⟨⟨hp, hx1, hx2, hxr⟩, hB⟩ _
    have hc1 := hx1.cell
    have hc2 := hx2.cell
    have hcr := hxr.cell
    have hfr := hxr.frozen
    obtain ⟨hl1, ht1⟩ := (HT1.out.below hB).2 x.1 x.2.1 x.2.2.2
    obtain ⟨hl2, ht2⟩ := (HT2.out.below hB).2 x.1 x.2.1 x.2.2.2
    have hxa := x.2.1
    have hxb := x.2.2.1
    cases hf : f x.1 <;> cases hg : g x.1 <;> rw [hf] at ht1 <;> rw [hg] at ht2
    all_goals
      have HP := Lib.hid hp
      have HF := Lib.hid hf
      have HG := Lib.hid hg
      clear hp hf hg
      gi_wp2
      first
        | exact ⟨KeepsOthers.refl _, rfl, ⟨pre_snoc HP.out (by rw [HF.out, HG.out]; rfl), hx1, hx2, hxr⟩, hB⟩
        | exact ⟨KeepsOthers.setCell _ _ _, ⟨rfl, ifB_miss x HF.out HG.out, hxr.set _⟩, hB.setCell (p := ⟨w.heap.size + 1 + 1, 0, none⟩) (by simp; omega) _⟩
  case done =>
    rintro D ys W hD hfull ⟨⟨hne, _, _, hxr⟩, hB⟩ hK
    have hcr := hxr.cell
    have hfr := hxr.frozen
    have HE := Lib.hid (ifB_full hs0 hfull hne)
    clear hne hfull
    gi_wp2
    have hK' := (KeepsOthers.setCell W ⟨w.heap.size + 1 + 1, 0, none⟩ (.bool true)).same D _ hK rfl
    refine ⟨by simp, .inl ⟨_, _, rfl, run_takeDeferred hK', ?_⟩⟩
    have hc5 := (box_putObj (hxr.set (.bool true)) (.deferred none) hK' rfl).cell
    refine ⟨.bool true, ?_, by rw [HE.out], (hB.setCell (p := ⟨w.heap.size + 1 + 1, 0, none⟩) (by simp; omega) _).trans (belowK_b (w := w) (Nat.le_refl _) _ D _ _ (by simp at hD; omega) hK' rfl rfl)⟩
    simp [results, Tryz.f120, go_sem, hc5]
  case stop =>
    rintro D c pre W hD hpre ⟨⟨rfl, hin, hxr⟩, hB⟩ hK
    gi_wp2
    refine ⟨by simp, .inl ⟨_, _, rfl, run_takeDeferred hK, ?_⟩⟩
    have hc5 := (box_putObj hxr (.deferred none) hK rfl).cell
    refine ⟨.bool false, ?_, by rw [hin], hB.trans (belowK_b (w := w) (Nat.le_refl _) W D _ _ (by simp at hD; omega) hK rfl rfl)⟩
    simp [results, Tryz.f120, go_sem, hc5]
end Go.Proofs.YtmdogidflaplkaaGreat

namespace Go.Proofs.YtmdogidflaplkaaGreat
open Go.RowKit

def bitOf (c k : Nat) : Bool := decide (c = 49) || (!decide (c = 48) && decide (k / 2 ^ (c - 97) % 2 = 1))
def wordTo (c : Nat) : Nat → Nat
  | 0 => 0
  | k + 1 => wordTo c k ||| (if bitOf c k = true then 2 ^ k else 0)
def isWord (c : Nat) : Prop := c = 48 ∨ c = 49 ∨ c = 97 ∨ c = 98 ∨ c = 99
set_option maxRecDepth 100000 in
set_option maxHeartbeats 4000000 in
theorem iWorldsOfWord (t : Int) (n : Nat) (hn : worldsOf t = (n : Int)) (hn8 : n ≤ 8) (c : Nat) (w : World) (hc : isWord c) :
    Calls Tryz.prog 121 #[.int .i64 t, .int .u8 c] w fun e w' => e = .returned (.int .i64 (wordTo c n)) ∧ w = w' := by
  have HN := Lib.hid hn
  clear hn
  go_enter Tryz.func121, Tryz.ntmps121
  go_wp2_with (go_at_call 50; refine (iWorldsOf _ _).mono ?_; rintro e w' ⟨rfl, rfl⟩)
  rw [HN.out]
  go_loop [5, 9] (fun v i => ∃ k : Nat, k ≤ n ∧ i = .int .i64 k ∧ v = .int .i64 (wordTo c k)) (fun _ i => n - (Go.RowKit.intOf i).toNat)
  case atStart => exact ⟨0, Nat.zero_le _, rfl, rfl⟩
  case round =>
    obtain ⟨k, hk, rfl, rfl⟩ := hrel
    by_cases hlt : k < n
    · have h8 : k = 0 ∨ k = 1 ∨ k = 2 ∨ k = 3 ∨ k = 4 ∨ k = 5 ∨ k = 6 ∨ k = 7 := by omega
      have hs : k + 1 ≤ n := hlt
      have HS := Lib.hid hs
      have HL : Hid ((k : Int) < (n : Int)) := by unfold Hid; omega
      clear hk hs hlt hn8
      rcases hc with rfl | rfl | rfl | rfl | rfl <;> rcases h8 with rfl | rfl | rfl | rfl | rfl | rfl | rfl | rfl
      all_goals
        have hlt := HL.out
        go_wp2
        refine ⟨⟨_, HS.out, rfl, by rfl⟩, ?_⟩
        clear HS HL
        simp [Go.RowKit.intOf]
        omega
    · obtain rfl : k = n := by omega
      go_wp2
      go_ret
      exact ⟨rfl, rfl⟩
end Go.Proofs.YtmdogidflaplkaaGreat

namespace Go.Proofs.YtmdogidflaplkaaGreat
open Go.RowKit

def denyB (s : Int) (f : Int → Bool) : Bool := (List.range 8).all fun w => !hasW s w || !f (worldS w)
def NoneTo (s : Int) (f : Int → Bool) (k : Nat) : Prop := ∀ j, j < k → hasW s j = true → f (worldS j) = false
theorem noneTo_next {s : Int} {f : Int → Bool} {k : Nat} (h : NoneTo s f k) (hk : hasW s k = true → f (worldS k) = false) : NoneTo s f (k + 1) := fun j hj => by
  by_cases e : j = k
  · subst e; exact hk
  · exact h j (by omega)
theorem has_pow {s : Int} {k : Nat} (h : hasW s k = true) : worldS k ≤ s := by
  have := Nat.ge_two_pow_of_testBit (x := s.toNat) (i := k) h
  have h2 := Nat.two_pow_pos k
  unfold worldS
  omega
theorem deny_end {s : Int} {f : Int → Bool} {k : Nat} (h : NoneTo s f k) (hk : s < worldS k) : denyB s f = true := by
  unfold denyB
  rw [List.all_eq_true]
  intro w _
  cases hw : hasW s w
  · rfl
  · have h1 := has_pow hw
    have : w < k := by
      rcases Nat.lt_or_ge w k with h2 | h2
      · exact h2
      · have : 2 ^ k ≤ 2 ^ w := Nat.pow_le_pow_right (by omega) h2
        unfold worldS at h1 hk
        omega
    rw [h w this hw]; rfl
theorem deny_hit {s : Int} {f : Int → Bool} {k : Nat} (hk : k < 8) (h1 : hasW s k = true) (h2 : f (worldS k) = true) : denyB s f = false := by
  unfold denyB
  rw [List.all_eq_false]
  exact ⟨k, List.mem_range.2 hk, by rw [h1, h2]; decide⟩
theorem iWithin_is {a b : Int} {v : Bool} (h : Hid (withinB a b = v)) (ha : 0 ≤ a) (ha2 : a < 1024) (hb : 0 ≤ b) (hb2 : b < 1024) (w : World) :
    Calls Tryz.prog 97 #[.int .i64 a, .int .i64 b] w fun e w' => e = .returned (.bool v) ∧ w = w' :=
  (iWithin a b ha ha2 hb hb2 w).mono fun _ _ ⟨he, hw⟩ => ⟨he.trans (ret_bool h.out), hw⟩
theorem world_is {s : Int} {k : Nat} {p : Int} {v : Bool} (hp : worldS k = p) (h : hasW s k = v) : Hid (withinB p s = v) := by
  unfold Hid
  subst hp
  cases v
  · cases h2 : withinB (worldS k) s
    · rfl
    · rw [(world_within k).1 h2] at h; cases h
  · exact (world_within k).2 h

set_option maxRecDepth 100000 in
set_option maxHeartbeats 4000000 in
theorem iDenies (s : Int) (b o n c : Nat) (f : Int → Bool) (w : World) (hs0 : 0 ≤ s) (hs : s < 256) (hT : Told w b o n s f) :
    Calls Tryz.prog 119 #[.int .i64 s, .slice (some ⟨b, o, none⟩) n c] w fun e w' => e = .returned (.bool (denyB s f)) ∧ w = w' := by
  have HT := Lib.hid hT
  clear hT
  go_enter Tryz.func119, Tryz.ntmps119
  go_wp2
  go_loop [5] (fun i => ∃ k : Nat, k ≤ 8 ∧ i = .int .i64 k ∧ Hid (NoneTo s f k)) (fun i => 8 - (Go.RowKit.intOf i).toNat)
  case atStart => exact ⟨0, Nat.zero_le _, rfl, fun j h => by omega⟩
  case round =>
    obtain ⟨k, hk, rfl, hsofar⟩ := hrel
    by_cases hle : worldS k ≤ s
    · have h8 : k = 0 ∨ k = 1 ∨ k = 2 ∨ k = 3 ∨ k = 4 ∨ k = 5 ∨ k = 6 ∨ k = 7 ∨ k = 8 := by omega
      clear hk
      rcases h8 with rfl | rfl | rfl | rfl | rfl | rfl | rfl | rfl | rfl
      · have hp : (1 : Int) ≤ s := hle
        clear hle
        cases hw : hasW s 0
        · have HW := world_is (p := 1) rfl hw
          have HN := Lib.hid (noneTo_next hsofar.out (fun e => by rw [hw] at e; cases e))
          clear hw hsofar
          go_wp2_with fail
          refine (iWithin_is HW (by omega) (by omega) hs0 (by omega) _).mono ?_
          rintro e w' ⟨rfl, rfl⟩
          go_wp2_with fail
          go_round
          case rel => exact ⟨0 + 1, by omega, by go_num, HN⟩
          case measure => simp [Go.RowKit.intOf]
        · have HW := world_is (p := 1) rfl hw
          obtain ⟨hin, hcell⟩ := HT.out.2 1 (by omega) HW.out
          have hcell : w.cell? ⟨b, o + 1, none⟩ = some (.bool (f 1)) := hcell
          cases hf : f 1
          · rw [hf] at hcell
            have HN := Lib.hid (noneTo_next hsofar.out (fun _ => hf))
            clear hw hf hsofar
            go_wp2_with fail
            refine (iWithin_is HW (by omega) (by omega) hs0 (by omega) _).mono ?_
            rintro e w' ⟨rfl, rfl⟩
            go_wp2_with fail
            go_round
            case rel => exact ⟨0 + 1, by omega, by go_num, HN⟩
            case measure => simp [Go.RowKit.intOf]
          · rw [hf] at hcell
            have HN := Lib.hid (deny_hit (k := 0) (by omega) hw hf)
            clear hw hf hsofar
            go_wp2_with fail
            refine (iWithin_is HW (by omega) (by omega) hs0 (by omega) _).mono ?_
            rintro e w' ⟨rfl, rfl⟩
            go_wp2_with fail
            go_ret
            exact ⟨ret_bool (by rw [HN.out]), rfl⟩
      · have hp : (2 : Int) ≤ s := hle
        clear hle
        cases hw : hasW s 1
        · have HW := world_is (p := 2) rfl hw
          have HN := Lib.hid (noneTo_next hsofar.out (fun e => by rw [hw] at e; cases e))
          clear hw hsofar
          go_wp2_with fail
          refine (iWithin_is HW (by omega) (by omega) hs0 (by omega) _).mono ?_
          rintro e w' ⟨rfl, rfl⟩
          go_wp2_with fail
          go_round
          case rel => exact ⟨1 + 1, by omega, by go_num, HN⟩
          case measure => simp [Go.RowKit.intOf]
        · have HW := world_is (p := 2) rfl hw
          obtain ⟨hin, hcell⟩ := HT.out.2 2 (by omega) HW.out
          have hcell : w.cell? ⟨b, o + 2, none⟩ = some (.bool (f 2)) := hcell
          cases hf : f 2
          · rw [hf] at hcell
            have HN := Lib.hid (noneTo_next hsofar.out (fun _ => hf))
            clear hw hf hsofar
            go_wp2_with fail
            refine (iWithin_is HW (by omega) (by omega) hs0 (by omega) _).mono ?_
            rintro e w' ⟨rfl, rfl⟩
            go_wp2_with fail
            go_round
            case rel => exact ⟨1 + 1, by omega, by go_num, HN⟩
            case measure => simp [Go.RowKit.intOf]
          · rw [hf] at hcell
            have HN := Lib.hid (deny_hit (k := 1) (by omega) hw hf)
            clear hw hf hsofar
            go_wp2_with fail
            refine (iWithin_is HW (by omega) (by omega) hs0 (by omega) _).mono ?_
            rintro e w' ⟨rfl, rfl⟩
            go_wp2_with fail
            go_ret
            exact ⟨ret_bool (by rw [HN.out]), rfl⟩
      · have hp : (4 : Int) ≤ s := hle
        clear hle
        cases hw : hasW s 2
        · have HW := world_is (p := 4) rfl hw
          have HN := Lib.hid (noneTo_next hsofar.out (fun e => by rw [hw] at e; cases e))
          clear hw hsofar
          go_wp2_with fail
          refine (iWithin_is HW (by omega) (by omega) hs0 (by omega) _).mono ?_
          rintro e w' ⟨rfl, rfl⟩
          go_wp2_with fail
          go_round
          case rel => exact ⟨2 + 1, by omega, by go_num, HN⟩
          case measure => simp [Go.RowKit.intOf]
        · have HW := world_is (p := 4) rfl hw
          obtain ⟨hin, hcell⟩ := HT.out.2 4 (by omega) HW.out
          have hcell : w.cell? ⟨b, o + 4, none⟩ = some (.bool (f 4)) := hcell
          cases hf : f 4
          · rw [hf] at hcell
            have HN := Lib.hid (noneTo_next hsofar.out (fun _ => hf))
            clear hw hf hsofar
            go_wp2_with fail
            refine (iWithin_is HW (by omega) (by omega) hs0 (by omega) _).mono ?_
            rintro e w' ⟨rfl, rfl⟩
            go_wp2_with fail
            go_round
            case rel => exact ⟨2 + 1, by omega, by go_num, HN⟩
            case measure => simp [Go.RowKit.intOf]
          · rw [hf] at hcell
            have HN := Lib.hid (deny_hit (k := 2) (by omega) hw hf)
            clear hw hf hsofar
            go_wp2_with fail
            refine (iWithin_is HW (by omega) (by omega) hs0 (by omega) _).mono ?_
            rintro e w' ⟨rfl, rfl⟩
            go_wp2_with fail
            go_ret
            exact ⟨ret_bool (by rw [HN.out]), rfl⟩
      · have hp : (8 : Int) ≤ s := hle
        clear hle
        cases hw : hasW s 3
        · have HW := world_is (p := 8) rfl hw
          have HN := Lib.hid (noneTo_next hsofar.out (fun e => by rw [hw] at e; cases e))
          clear hw hsofar
          go_wp2_with fail
          refine (iWithin_is HW (by omega) (by omega) hs0 (by omega) _).mono ?_
          rintro e w' ⟨rfl, rfl⟩
          go_wp2_with fail
          go_round
          case rel => exact ⟨3 + 1, by omega, by go_num, HN⟩
          case measure => simp [Go.RowKit.intOf]
        · have HW := world_is (p := 8) rfl hw
          obtain ⟨hin, hcell⟩ := HT.out.2 8 (by omega) HW.out
          have hcell : w.cell? ⟨b, o + 8, none⟩ = some (.bool (f 8)) := hcell
          cases hf : f 8
          · rw [hf] at hcell
            have HN := Lib.hid (noneTo_next hsofar.out (fun _ => hf))
            clear hw hf hsofar
            go_wp2_with fail
            refine (iWithin_is HW (by omega) (by omega) hs0 (by omega) _).mono ?_
            rintro e w' ⟨rfl, rfl⟩
            go_wp2_with fail
            go_round
            case rel => exact ⟨3 + 1, by omega, by go_num, HN⟩
            case measure => simp [Go.RowKit.intOf]
          · rw [hf] at hcell
            have HN := Lib.hid (deny_hit (k := 3) (by omega) hw hf)
            clear hw hf hsofar
            go_wp2_with fail
            refine (iWithin_is HW (by omega) (by omega) hs0 (by omega) _).mono ?_
            rintro e w' ⟨rfl, rfl⟩
            go_wp2_with fail
            go_ret
            exact ⟨ret_bool (by rw [HN.out]), rfl⟩
      · have hp : (16 : Int) ≤ s := hle
        clear hle
        cases hw : hasW s 4
        · have HW := world_is (p := 16) rfl hw
          have HN := Lib.hid (noneTo_next hsofar.out (fun e => by rw [hw] at e; cases e))
          clear hw hsofar
          go_wp2_with fail
          refine (iWithin_is HW (by omega) (by omega) hs0 (by omega) _).mono ?_
          rintro e w' ⟨rfl, rfl⟩
          go_wp2_with fail
          go_round
          case rel => exact ⟨4 + 1, by omega, by go_num, HN⟩
          case measure => simp [Go.RowKit.intOf]
        · have HW := world_is (p := 16) rfl hw
          obtain ⟨hin, hcell⟩ := HT.out.2 16 (by omega) HW.out
          have hcell : w.cell? ⟨b, o + 16, none⟩ = some (.bool (f 16)) := hcell
          cases hf : f 16
          · rw [hf] at hcell
            have HN := Lib.hid (noneTo_next hsofar.out (fun _ => hf))
            clear hw hf hsofar
            go_wp2_with fail
            refine (iWithin_is HW (by omega) (by omega) hs0 (by omega) _).mono ?_
            rintro e w' ⟨rfl, rfl⟩
            go_wp2_with fail
            go_round
            case rel => exact ⟨4 + 1, by omega, by go_num, HN⟩
            case measure => simp [Go.RowKit.intOf]
          · rw [hf] at hcell
            have HN := Lib.hid (deny_hit (k := 4) (by omega) hw hf)
            clear hw hf hsofar
            go_wp2_with fail
            refine (iWithin_is HW (by omega) (by omega) hs0 (by omega) _).mono ?_
            rintro e w' ⟨rfl, rfl⟩
            go_wp2_with fail
            go_ret
            exact ⟨ret_bool (by rw [HN.out]), rfl⟩
      · have hp : (32 : Int) ≤ s := hle
        clear hle
        cases hw : hasW s 5
        · have HW := world_is (p := 32) rfl hw
          have HN := Lib.hid (noneTo_next hsofar.out (fun e => by rw [hw] at e; cases e))
          clear hw hsofar
          go_wp2_with fail
          refine (iWithin_is HW (by omega) (by omega) hs0 (by omega) _).mono ?_
          rintro e w' ⟨rfl, rfl⟩
          go_wp2_with fail
          go_round
          case rel => exact ⟨5 + 1, by omega, by go_num, HN⟩
          case measure => simp [Go.RowKit.intOf]
        · have HW := world_is (p := 32) rfl hw
          obtain ⟨hin, hcell⟩ := HT.out.2 32 (by omega) HW.out
          have hcell : w.cell? ⟨b, o + 32, none⟩ = some (.bool (f 32)) := hcell
          cases hf : f 32
          · rw [hf] at hcell
            have HN := Lib.hid (noneTo_next hsofar.out (fun _ => hf))
            clear hw hf hsofar
            go_wp2_with fail
            refine (iWithin_is HW (by omega) (by omega) hs0 (by omega) _).mono ?_
            rintro e w' ⟨rfl, rfl⟩
            go_wp2_with fail
            go_round
            case rel => exact ⟨5 + 1, by omega, by go_num, HN⟩
            case measure => simp [Go.RowKit.intOf]
          · rw [hf] at hcell
            have HN := Lib.hid (deny_hit (k := 5) (by omega) hw hf)
            clear hw hf hsofar
            go_wp2_with fail
            refine (iWithin_is HW (by omega) (by omega) hs0 (by omega) _).mono ?_
            rintro e w' ⟨rfl, rfl⟩
            go_wp2_with fail
            go_ret
            exact ⟨ret_bool (by rw [HN.out]), rfl⟩
      · have hp : (64 : Int) ≤ s := hle
        clear hle
        cases hw : hasW s 6
        · have HW := world_is (p := 64) rfl hw
          have HN := Lib.hid (noneTo_next hsofar.out (fun e => by rw [hw] at e; cases e))
          clear hw hsofar
          go_wp2_with fail
          refine (iWithin_is HW (by omega) (by omega) hs0 (by omega) _).mono ?_
          rintro e w' ⟨rfl, rfl⟩
          go_wp2_with fail
          go_round
          case rel => exact ⟨6 + 1, by omega, by go_num, HN⟩
          case measure => simp [Go.RowKit.intOf]
        · have HW := world_is (p := 64) rfl hw
          obtain ⟨hin, hcell⟩ := HT.out.2 64 (by omega) HW.out
          have hcell : w.cell? ⟨b, o + 64, none⟩ = some (.bool (f 64)) := hcell
          cases hf : f 64
          · rw [hf] at hcell
            have HN := Lib.hid (noneTo_next hsofar.out (fun _ => hf))
            clear hw hf hsofar
            go_wp2_with fail
            refine (iWithin_is HW (by omega) (by omega) hs0 (by omega) _).mono ?_
            rintro e w' ⟨rfl, rfl⟩
            go_wp2_with fail
            go_round
            case rel => exact ⟨6 + 1, by omega, by go_num, HN⟩
            case measure => simp [Go.RowKit.intOf]
          · rw [hf] at hcell
            have HN := Lib.hid (deny_hit (k := 6) (by omega) hw hf)
            clear hw hf hsofar
            go_wp2_with fail
            refine (iWithin_is HW (by omega) (by omega) hs0 (by omega) _).mono ?_
            rintro e w' ⟨rfl, rfl⟩
            go_wp2_with fail
            go_ret
            exact ⟨ret_bool (by rw [HN.out]), rfl⟩
      · have hp : (128 : Int) ≤ s := hle
        clear hle
        cases hw : hasW s 7
        · have HW := world_is (p := 128) rfl hw
          have HN := Lib.hid (noneTo_next hsofar.out (fun e => by rw [hw] at e; cases e))
          clear hw hsofar
          go_wp2_with fail
          refine (iWithin_is HW (by omega) (by omega) hs0 (by omega) _).mono ?_
          rintro e w' ⟨rfl, rfl⟩
          go_wp2_with fail
          go_round
          case rel => exact ⟨7 + 1, by omega, by go_num, HN⟩
          case measure => simp [Go.RowKit.intOf]
        · have HW := world_is (p := 128) rfl hw
          obtain ⟨hin, hcell⟩ := HT.out.2 128 (by omega) HW.out
          have hcell : w.cell? ⟨b, o + 128, none⟩ = some (.bool (f 128)) := hcell
          cases hf : f 128
          · rw [hf] at hcell
            have HN := Lib.hid (noneTo_next hsofar.out (fun _ => hf))
            clear hw hf hsofar
            go_wp2_with fail
            refine (iWithin_is HW (by omega) (by omega) hs0 (by omega) _).mono ?_
            rintro e w' ⟨rfl, rfl⟩
            go_wp2_with fail
            go_round
            case rel => exact ⟨7 + 1, by omega, by go_num, HN⟩
            case measure => simp [Go.RowKit.intOf]
          · rw [hf] at hcell
            have HN := Lib.hid (deny_hit (k := 7) (by omega) hw hf)
            clear hw hf hsofar
            go_wp2_with fail
            refine (iWithin_is HW (by omega) (by omega) hs0 (by omega) _).mono ?_
            rintro e w' ⟨rfl, rfl⟩
            go_wp2_with fail
            go_ret
            exact ⟨ret_bool (by rw [HN.out]), rfl⟩
      · have hp : (256 : Int) ≤ s := hle
        omega
    · have HN := Lib.hid (deny_end hsofar.out (by omega))
      have h8 : k = 0 ∨ k = 1 ∨ k = 2 ∨ k = 3 ∨ k = 4 ∨ k = 5 ∨ k = 6 ∨ k = 7 ∨ k = 8 := by omega
      clear hk hsofar
      rcases h8 with rfl | rfl | rfl | rfl | rfl | rfl | rfl | rfl | rfl
      · have hp : s < (1 : Int) := by have : ¬ (1 : Int) ≤ s := hle; omega
        clear hle
        go_wp2
        go_ret
        exact ⟨ret_bool (by rw [HN.out]), rfl⟩
      · have hp : s < (2 : Int) := by have : ¬ (2 : Int) ≤ s := hle; omega
        clear hle
        go_wp2
        go_ret
        exact ⟨ret_bool (by rw [HN.out]), rfl⟩
      · have hp : s < (4 : Int) := by have : ¬ (4 : Int) ≤ s := hle; omega
        clear hle
        go_wp2
        go_ret
        exact ⟨ret_bool (by rw [HN.out]), rfl⟩
      · have hp : s < (8 : Int) := by have : ¬ (8 : Int) ≤ s := hle; omega
        clear hle
        go_wp2
        go_ret
        exact ⟨ret_bool (by rw [HN.out]), rfl⟩
      · have hp : s < (16 : Int) := by have : ¬ (16 : Int) ≤ s := hle; omega
        clear hle
        go_wp2
        go_ret
        exact ⟨ret_bool (by rw [HN.out]), rfl⟩
      · have hp : s < (32 : Int) := by have : ¬ (32 : Int) ≤ s := hle; omega
        clear hle
        go_wp2
        go_ret
        exact ⟨ret_bool (by rw [HN.out]), rfl⟩
      · have hp : s < (64 : Int) := by have : ¬ (64 : Int) ≤ s := hle; omega
        clear hle
        go_wp2
        go_ret
        exact ⟨ret_bool (by rw [HN.out]), rfl⟩
      · have hp : s < (128 : Int) := by have : ¬ (128 : Int) ≤ s := hle; omega
        clear hle
        go_wp2
        go_ret
        exact ⟨ret_bool (by rw [HN.out]), rfl⟩
      · have hp : s < (256 : Int) := by have : ¬ (256 : Int) ≤ s := hle; omega
        clear hle
        go_wp2
        go_ret
        exact ⟨ret_bool (by rw [HN.out]), rfl⟩
end Go.Proofs.YtmdogidflaplkaaGreat

namespace Go.Proofs.YtmdogidflaplkaaGreat
open Go.RowKit

def signS : Sen → Nat
  | .one => 49
  | .zero => 48
  | .thing i => 97 + i
  | .no _ => 33
  | .ask _ => 63
  | .and_ _ _ => 38
  | .or_ _ _ => 124
  | .if_ _ _ => 62
theorem worlds_n {t : Int} (h1 : 1 ≤ t) (h3 : t ≤ 3) : worldsOf t = (nWorlds t : Int) ∧ nWorlds t ≤ 8 := by
  have : t = 1 ∨ t = 2 ∨ t = 3 := by omega
  rcases this with rfl | rfl | rfl <;> exact ⟨rfl, by decide⟩
theorem word_one {t : Int} (h1 : 1 ≤ t) (h3 : t ≤ 3) : (wordTo 49 (nWorlds t) : Int) = allOf t := by
  have : t = 1 ∨ t = 2 ∨ t = 3 := by omega
  rcases this with rfl | rfl | rfl <;> rfl
theorem word_zero {t : Int} (h1 : 1 ≤ t) (h3 : t ≤ 3) : (wordTo 48 (nWorlds t) : Int) = 0 := by
  have : t = 1 ∨ t = 2 ∨ t = 3 := by omega
  rcases this with rfl | rfl | rfl <;> rfl
theorem word_thing {t : Int} {i : Nat} (h1 : 1 ≤ t) (h3 : t ≤ 3) (hi : (i : Int) < t) : (wordTo (97 + i) (nWorlds t) : Int) = letterSet t i := by
  have : t = 1 ∨ t = 2 ∨ t = 3 := by omega
  rcases this with rfl | rfl | rfl
  · obtain rfl : i = 0 := by omega
    rfl
  · have : i = 0 ∨ i = 1 := by omega
    rcases this with rfl | rfl <;> rfl
  · have : i = 0 ∨ i = 1 ∨ i = 2 := by omega
    rcases this with rfl | rfl | rfl <;> rfl
theorem word_range (c : Nat) {t : Int} (h1 : 1 ≤ t) (h3 : t ≤ 3) (hc : isWord c) : wordTo c (nWorlds t) < 256 := by
  have : t = 1 ∨ t = 2 ∨ t = 3 := by omega
  rcases this with rfl | rfl | rfl <;> rcases hc with rfl | rfl | rfl | rfl | rfl <;> decide
theorem deny_worlds {t s : Int} (h1 : 1 ≤ t) (h3 : t ≤ 3) (hs0 : 0 ≤ s) (hs : s ≤ allOf t) (f : Int → Bool) : ((List.range (nWorlds t)).all fun w => !hasW s w || !f (worldS w)) = denyB s f := by
  unfold denyB
  rw [Bool.eq_iff_iff, List.all_eq_true, List.all_eq_true]
  have hn := (worlds_n h1 h3).2
  constructor
  · intro h w hw
    rcases Nat.lt_or_ge w (nWorlds t) with h2 | h2
    · exact h w (List.mem_range.2 h2)
    · cases h4 : hasW s w
      · rfl
      · have := has_lt h1 h3 hs0 hs h4; omega
  · intro h w hw
    exact h w (List.mem_range.2 (by have := List.mem_range.1 hw; omega))
theorem holds_no {t s : Int} (h1 : 1 ≤ t) (h3 : t ≤ 3) (hs0 : 0 ≤ s) (hs : s ≤ allOf t) (x : Sen) : holdsS t (.no x) s = denyB s (holdsS t x) := deny_worlds h1 h3 hs0 hs _
theorem holds_ask {t s : Int} (h1 : 1 ≤ t) (h3 : t ≤ 3) (hs0 : 0 ≤ s) (hs : s ≤ allOf t) (x : Sen) : holdsS t (.ask x) s = (holdsS t x s || denyB s (holdsS t x)) := by
  rw [← deny_worlds h1 h3 hs0 hs]; rfl
theorem holds_if (t : Int) (x y : Sen) (s : Int) : holdsS t (.if_ x y) s = ifB s (holdsS t x) (holdsS t y) := rfl

def TellsV (w : World) (v : Value) (s : Int) (f : Int → Bool) : Prop := ∃ b o n c, v = .slice (some ⟨b, o, none⟩) n c ∧ Told w b o n s f
def KidsTold (w : World) (t : Int) (x : Sen) (s : Int) (v1 v2 : Value) : Prop :=
  match x with
  | .no a => TellsV w v1 s (holdsS t a)
  | .ask a => TellsV w v1 s (holdsS t a)
  | .and_ a b => TellsV w v1 s (holdsS t a) ∧ TellsV w v2 s (holdsS t b)
  | .or_ a b => TellsV w v1 s (holdsS t a) ∧ TellsV w v2 s (holdsS t b)
  | .if_ a b => TellsV w v1 s (holdsS t a) ∧ TellsV w v2 s (holdsS t b)
  | _ => True
theorem TellsV.below {w w' : World} {v : Value} {s : Int} {f : Int → Bool} (h : TellsV w v s f) (hb : Below w.heap.size w w') : TellsV w' v s f := by
  obtain ⟨b, o, n, c, rfl, h⟩ := h; exact ⟨b, o, n, c, rfl, h.below hb⟩
theorem TellsV.sub {w : World} {v : Value} {s s2 : Int} {f : Int → Bool} (h : TellsV w v s f) (hs0 : 0 ≤ s2) (hs : withinB s2 s = true) : TellsV w v s2 f := by
  obtain ⟨b, o, n, c, rfl, h⟩ := h; exact ⟨b, o, n, c, rfl, h.sub hs0 hs⟩
theorem KidsTold.below {w w' : World} {t : Int} {x : Sen} {s : Int} {v1 v2 : Value} (h : KidsTold w t x s v1 v2) (hb : Below w.heap.size w w') : KidsTold w' t x s v1 v2 := by
  cases x with
  | one => trivial
  | zero => trivial
  | thing i => trivial
  | no a => exact TellsV.below h hb
  | ask a => exact TellsV.below h hb
  | and_ a b => exact ⟨TellsV.below h.1 hb, TellsV.below h.2 hb⟩
  | or_ a b => exact ⟨TellsV.below h.1 hb, TellsV.below h.2 hb⟩
  | if_ a b => exact ⟨TellsV.below h.1 hb, TellsV.below h.2 hb⟩
theorem KidsTold.sub {w : World} {t : Int} {x : Sen} {s s2 : Int} {v1 v2 : Value} (h : KidsTold w t x s v1 v2) (hs0 : 0 ≤ s2) (hs : withinB s2 s = true) : KidsTold w t x s2 v1 v2 := by
  cases x with
  | one => trivial
  | zero => trivial
  | thing i => trivial
  | no a => exact TellsV.sub h hs0 hs
  | ask a => exact TellsV.sub h hs0 hs
  | and_ a b => exact ⟨TellsV.sub h.1 hs0 hs, TellsV.sub h.2 hs0 hs⟩
  | or_ a b => exact ⟨TellsV.sub h.1 hs0 hs, TellsV.sub h.2 hs0 hs⟩
  | if_ a b => exact ⟨TellsV.sub h.1 hs0 hs, TellsV.sub h.2 hs0 hs⟩
theorem iDenies_is {s : Int} {f : Int → Bool} {v : Bool} (h : Hid (denyB s f = v)) {b o n c : Nat} {w : World} (hs0 : 0 ≤ s) (hs : s < 256) (hT : Told w b o n s f) :
    Calls Tryz.prog 119 #[.int .i64 s, .slice (some ⟨b, o, none⟩) n c] w fun e w' => e = .returned (.bool v) ∧ w = w' :=
  (iDenies s b o n c f w hs0 hs hT).mono fun _ _ ⟨he, hw⟩ => ⟨he.trans (ret_bool h.out), hw⟩

set_option maxRecDepth 100000 in
set_option maxHeartbeats 4000000 in
theorem iBySign_word (t s : Int) (c : Nat) (hc : isWord c) (v1 v2 : Value) (w : World) (h1 : 1 ≤ t) (h3 : t ≤ 3) (hs0 : 0 ≤ s) (hs : s ≤ allOf t) :
    Calls Tryz.prog 110 #[.int .i64 t, .int .i64 s, .int .u8 c, v1, v2] w fun e w' => e = .returned (.bool (withinB s (wordTo c (nWorlds t)))) ∧ w = w' := by
  obtain ⟨hn, hn8⟩ := worlds_n h1 h3
  have hr := word_range c h1 h3 hc
  have hal := (allOf_lt t).2
  have HN := Lib.hid hn
  have HC := Lib.hid hc
  obtain ⟨g, HG⟩ : ∃ g : Nat, Hid (wordTo c (nWorlds t) = g) := ⟨_, rfl⟩
  have hg : g < 256 := by rw [← HG.out]; exact hr
  rw [HG.out]
  clear hn hr
  rcases hc with rfl | rfl | rfl | rfl | rfl
  all_goals
    go_enter Tryz.func110, Tryz.ntmps110
    go_wp2_with (first | (go_at_call 121; refine (iWorldsOfWord _ _ HN.out hn8 _ _ HC.out).mono ?_; rintro e w' ⟨rfl, rfl⟩; rw [HG.out]) | (go_at_call 97; refine (iWithin _ _ hs0 (by omega) (by omega) (by omega) _).mono ?_; rintro e w' ⟨rfl, rfl⟩))
    go_ret
    exact ⟨rfl, rfl⟩

set_option maxRecDepth 100000 in
set_option maxHeartbeats 4000000 in
theorem iBySign (t s : Int) (x : Sen) (v1 v2 : Value) (w : World) (hx : senOk t x = true) (h1 : 1 ≤ t) (h3 : t ≤ 3) (hs0 : 0 ≤ s) (hs : s ≤ allOf t) (hk : KidsTold w t x s v1 v2) :
    Calls Tryz.prog 110 #[.int .i64 t, .int .i64 s, .int .u8 (signS x), v1, v2] w fun e w' => e = .returned (.bool (holdsS t x s)) ∧ Below w.heap.size w w' := by
  have hal := (allOf_lt t).2
  have hsr : withinB s s = true := within_refl s hs0
  cases x with
  | one =>
    refine (iBySign_word t s 49 (.inr (.inl rfl)) v1 v2 w h1 h3 hs0 hs).mono ?_
    rintro e w' ⟨rfl, rfl⟩
    exact ⟨ret_bool (by rw [word_one h1 h3, (within_all h1 h3 hs0).2 hs]; rfl), Below.refl _ _⟩
  | zero =>
    refine (iBySign_word t s 48 (.inl rfl) v1 v2 w h1 h3 hs0 hs).mono ?_
    rintro e w' ⟨rfl, rfl⟩
    refine ⟨ret_bool ?_, Below.refl _ _⟩
    rw [word_zero h1 h3]
    show _ = decide (s = 0)
    rw [Bool.eq_iff_iff, decide_eq_true_eq, within_nothing hs0]
  | thing i =>
    have hi : (i : Int) < t := of_decide_eq_true hx
    refine (iBySign_word t s (97 + i) (by unfold isWord; omega) v1 v2 w h1 h3 hs0 hs).mono ?_
    rintro e w' ⟨rfl, rfl⟩
    exact ⟨ret_bool (by rw [word_thing h1 h3 hi]; rfl), Below.refl _ _⟩
  | no a =>
    obtain ⟨b, o, n, c, rfl, hT⟩ := hk
    have HT := Lib.hid hT
    have HF := Lib.hid (holds_no h1 h3 hs0 hs a)
    clear hT hsr hx
    show Calls Tryz.prog 110 #[.int .i64 t, .int .i64 s, .int .u8 33, _, v2] w _
    go_enter Tryz.func110, Tryz.ntmps110
    go_wp2_with (go_at_call 119; refine (iDenies s _ _ _ _ _ _ hs0 (by omega) HT.out).mono ?_; rintro e w' ⟨rfl, rfl⟩)
    go_ret
    exact ⟨ret_bool HF.out.symm, Below.refl _ _⟩
  | ask a =>
    obtain ⟨b, o, n, c, rfl, hT⟩ := hk
    have HT := Lib.hid hT
    obtain ⟨hi, hcell⟩ := hT.2 s hs0 hsr
    have HF := Lib.hid (holds_ask h1 h3 hs0 hs a)
    obtain ⟨fs, HFS⟩ : ∃ x, Hid (holdsS t a s = x) := ⟨_, rfl⟩
    obtain ⟨ds, HDS⟩ : ∃ x, Hid (denyB s (holdsS t a) = x) := ⟨_, rfl⟩
    rw [HFS.out] at hcell
    clear hT hsr hx
    show Calls Tryz.prog 110 #[.int .i64 t, .int .i64 s, .int .u8 63, _, v2] w _
    cases fs
    all_goals
      go_enter Tryz.func110, Tryz.ntmps110
      go_wp2_with (go_at_call 119; refine (iDenies_is HDS hs0 (by omega) HT.out).mono ?_; rintro e w' ⟨rfl, rfl⟩)
      go_ret
      exact ⟨ret_bool (by rw [HF.out, HFS.out, HDS.out]; rfl), Below.refl _ _⟩
  | and_ a c =>
    obtain ⟨⟨b, o, n, c1, rfl, hT⟩, b2, o2, n2, c2, rfl, hT2⟩ := hk
    obtain ⟨hi, hcell⟩ := hT.2 s hs0 hsr
    obtain ⟨hi2, hcell2⟩ := hT2.2 s hs0 hsr
    have HF : Hid (holdsS t (.and_ a c) s = (holdsS t a s && holdsS t c s)) := rfl
    obtain ⟨fs, HFS⟩ : ∃ x, Hid (holdsS t a s = x) := ⟨_, rfl⟩
    obtain ⟨ds, HDS⟩ : ∃ x, Hid (holdsS t c s = x) := ⟨_, rfl⟩
    rw [HFS.out] at hcell
    rw [HDS.out] at hcell2
    clear hT hT2 hsr hx
    show Calls Tryz.prog 110 #[.int .i64 t, .int .i64 s, .int .u8 38, _, _] w _
    cases fs
    all_goals
      go_enter Tryz.func110, Tryz.ntmps110
      go_wp2_with fail
      go_ret
      exact ⟨ret_bool (by rw [HF.out, HFS.out, HDS.out]; rfl), Below.refl _ _⟩
  | or_ a c =>
    obtain ⟨⟨b, o, n, c1, rfl, hT⟩, b2, o2, n2, c2, rfl, hT2⟩ := hk
    obtain ⟨hi, hcell⟩ := hT.2 s hs0 hsr
    obtain ⟨hi2, hcell2⟩ := hT2.2 s hs0 hsr
    have HF : Hid (holdsS t (.or_ a c) s = (holdsS t a s || holdsS t c s)) := rfl
    obtain ⟨fs, HFS⟩ : ∃ x, Hid (holdsS t a s = x) := ⟨_, rfl⟩
    obtain ⟨ds, HDS⟩ : ∃ x, Hid (holdsS t c s = x) := ⟨_, rfl⟩
    rw [HFS.out] at hcell
    rw [HDS.out] at hcell2
    clear hT hT2 hsr hx
    show Calls Tryz.prog 110 #[.int .i64 t, .int .i64 s, .int .u8 124, _, _] w _
    cases fs
    all_goals
      go_enter Tryz.func110, Tryz.ntmps110
      go_wp2_with fail
      go_ret
      exact ⟨ret_bool (by rw [HF.out, HFS.out, HDS.out]; rfl), Below.refl _ _⟩
  | if_ a c =>
    obtain ⟨⟨b, o, n, c1, rfl, hT⟩, b2, o2, n2, c2, rfl, hT2⟩ := hk
    have HT := Lib.hid hT
    have HT2 := Lib.hid hT2
    have HF := Lib.hid (holds_if t a c s)
    clear hT hT2 hsr hx
    show Calls Tryz.prog 110 #[.int .i64 t, .int .i64 s, .int .u8 62, _, _] w _
    go_enter Tryz.func110, Tryz.ntmps110
    go_wp2_with fail
    refine (iCarriesOver s _ _ _ _ _ _ _ _ _ _ _ hs0 (by omega) HT.out HT2.out).mono ?_
    rintro e w' ⟨rfl, hb⟩
    have HB := Lib.hid hb
    clear hb
    go_wp2_with fail
    go_ret
    exact ⟨ret_bool HF.out.symm, HB.out⟩
end Go.Proofs.YtmdogidflaplkaaGreat
