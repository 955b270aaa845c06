/-
  What the proofs of this seat's statements share (LdcK).
-/
import Derived.Test.YtjilcnehndmoaaaU20

namespace Go.Proofs.Ytjilcnehndmoaaa
open Go.RowKit

set_option maxRecDepth 100000 in
set_option maxHeartbeats 4000000 in
theorem iNeededBy (t : Int) (s : ByteArray) (w : World) (hs : s.size ≤ 9223372036854775807) :
    Calls Try.prog 20 #[.int .i64 t, .string s] w fun e w' => e = .returned (.int .i64 (neededT t s)) ∧ Below w.heap.size w w' := by
  have HI := Lib.hid (iWorldByWorld t s w hs)
  obtain ⟨a, ha⟩ : ∃ a, neededT t s = a := ⟨_, rfl⟩
  obtain ⟨b, hb⟩ : ∃ b, leftT t s = b := ⟨_, rfl⟩
  rw [ha, hb] at HI
  rw [ha]
  clear ha hb
  go_enter Try.func20, Try.ntmps20
  go_wp2_with fail
  refine HI.out.mono ?_
  rintro e w1 ⟨rfl, hb⟩
  have HB := Lib.hid hb
  clear hb
  go_wp2_with fail
  go_ret
  exact ⟨rfl, HB.out⟩
set_option maxRecDepth 100000 in
set_option maxHeartbeats 4000000 in
theorem iLeftBy (t : Int) (s : ByteArray) (w : World) (hs : s.size ≤ 9223372036854775807) :
    Calls Try.prog 24 #[.int .i64 t, .string s] w fun e w' => e = .returned (.int .i64 (leftT t s)) ∧ Below w.heap.size w w' := by
  have HI := Lib.hid (iWorldByWorld t s w hs)
  obtain ⟨a, ha⟩ : ∃ a, neededT t s = a := ⟨_, rfl⟩
  obtain ⟨b, hb⟩ : ∃ b, leftT t s = b := ⟨_, rfl⟩
  rw [ha, hb] at HI
  rw [hb]
  clear ha hb
  go_enter Try.func24, Try.ntmps24
  go_wp2_with fail
  refine HI.out.mono ?_
  rintro e w1 ⟨rfl, hb⟩
  have HB := Lib.hid hb
  clear hb
  go_wp2_with fail
  go_ret
  exact ⟨rfl, HB.out⟩
set_option maxRecDepth 100000 in
set_option maxHeartbeats 4000000 in
theorem iWorldsOfWord_bad (t : Int) (c : Nat) (w : World) (h : t < 1 ∨ 3 < t) :
    Calls Try.prog 49 #[.int .i64 t, .int .u8 c] w fun e w' => e = .returned (.int .i64 0) ∧ w = w' := by
  have HN := Lib.hid (worldsOf_bad h)
  clear h
  go_enter Try.func49, Try.ntmps49
  go_wp2_with (go_at_call 40; refine (iWorldsOf _ _).mono ?_; rintro e w' ⟨rfl, rfl⟩)
  rw [HN.out]
  go_loop [5, 9] (fun v i => i = .int .i64 0 ∧ v = .int .i64 0) (fun _ _ => 0)
  case atStart => exact ⟨rfl, rfl⟩
  case round =>
    obtain ⟨rfl, rfl⟩ := hrel
    go_wp2
    go_ret
    exact ⟨rfl, rfl⟩
/-- The set of all worlds as the program has it, for whatever number of things. -/
def allW (t : Int) : Int := if t < 1 ∨ 3 < t then 0 else allOf t
theorem iAllWord (t : Int) (w : World) : Calls Try.prog 49 #[.int .i64 t, .int .u8 49] w fun e w' => e = .returned (.int .i64 (allW t)) ∧ w = w' := by
  unfold allW
  by_cases h : t < 1 ∨ 3 < t
  · rw [if_pos h]
    exact iWorldsOfWord_bad t 49 w h
  · rw [if_neg h]
    have h1 : 1 ≤ t := by omega
    have h3 : t ≤ 3 := by omega
    have hn := worlds_n h1 h3
    have := iWorldsOfWord t (nWorlds t) hn.1 hn.2 49 w (.inr (.inl rfl))
    rw [word_one h1 h3] at this
    exact this
theorem neutral_is (t : Int) (s : ByteArray) : (neededT t s == allW t) = neutralT t s := by
  unfold neutralT neededT
  rcases h : ldT t s with _ | x
  · have : 0 ≤ allW t := by unfold allW; have := (allOf_lt t).1; split <;> omega
    rw [beq_eq_false_iff_ne]
    simp only
    omega
  · obtain ⟨h1, h3, _⟩ := ldT_ok h
    simp only
    rw [show allW t = allOf t by unfold allW; rw [if_neg (by omega)]]
    exact Bool.eq_iff_iff.2 (by simp)
set_option maxRecDepth 100000 in
set_option maxHeartbeats 4000000 in
theorem iNeutral (t : Int) (s : ByteArray) (w : World) (hs : s.size ≤ 9223372036854775807) :
    Calls Try.prog 33 #[.int .i64 t, .string s] w fun e w' => e = .returned (.bool (neutralT t s)) ∧ Below w.heap.size w w' := by
  have HI := Lib.hid (iWorldByWorld t s w hs)
  have HN := Lib.hid (neutral_is t s)
  obtain ⟨a, ha⟩ : ∃ a, neededT t s = a := ⟨_, rfl⟩
  obtain ⟨b, hb⟩ : ∃ b, leftT t s = b := ⟨_, rfl⟩
  obtain ⟨c, hc⟩ : ∃ c, neutralT t s = c := ⟨_, rfl⟩
  obtain ⟨d, HD⟩ : ∃ d, Hid (allW t = d) := ⟨_, rfl⟩
  rw [ha, hb] at HI
  rw [ha, hc, HD.out] at HN
  rw [hc]
  clear ha hb hc
  go_enter Try.func33, Try.ntmps33
  go_wp2_with fail
  refine HI.out.mono ?_
  rintro e w1 ⟨rfl, hb⟩
  have HB := Lib.hid hb
  clear hb
  go_wp2_with (go_at_call 49; refine (iAllWord _ _).mono ?_; rintro e w' ⟨rfl, rfl⟩; rw [HD.out])
  go_ret
  exact ⟨ret_bool HN.out, HB.out⟩
end Go.Proofs.Ytjilcnehndmoaaa
