/-
  What the proofs of this seat's statements share (TlkG, TlkJ).
-/
import Derived.Deep.Cut
import Derived.Deep.CutRange
import Derived.Deep.CutBlock
import Derived.Test.YtmdogidflaplkaaGreatU26

namespace Go.Proofs.YtmdogidflaplkaaGreat
open Go.RowKit

theorem sDo_none {T : TalkV} {kind : Int} {text : ByteArray} (h : ((kind < 0 ∨ 1 < kind) ∧ ¬(kind = 2 ∧ text = ⟨#[]⟩ ∧ 0 < T.past.length)) ∨ (0 ≤ kind ∧ kind ≤ 1 ∧ isT T.things text = false)) : doT T kind text = none := by
  unfold doT talkDo
  by_cases h2 : kind = 2
  · subst h2
    rcases h with ⟨_, h⟩ | h
    · rw [if_pos rfl]
      by_cases ht : text = asksT.none
      · rw [if_pos ht]
        have hp : T.past = [] := Classical.byContradiction fun hn => h ⟨rfl, ht, List.length_pos_iff.2 hn⟩
        rw [hp]
        rfl
      · rw [if_neg ht]
    · omega
  rw [if_neg h2]
  rcases h with ⟨h, _⟩ | ⟨h0, h1, hS⟩
  · rw [if_neg (by omega), if_neg (by omega)]
  · have hn : ¬ asksT.isS T.things text = true := by
      intro e
      rw [show isT T.things text = true from e] at hS
      cases hS
    rw [if_neg hn, if_neg hn]
    split
    · rfl
    · split <;> rfl
/-- The model's TalkDo. -/
theorem sTalkDo (T : TalkV) (A B : Option Addr) (n c m d : Nat) (kind : Int) (text : ByteArray) (w : World) (hT : TkAt w T A n c B m d) (hs : SmallT T) (hx : text.size ≤ 1048576) :
    Calls Tryz.prog 9 #[.agg #[.int .i64 T.things, .int .i64 T.now.known, .slice A n c, .slice B m d], .agg #[.int .i64 kind, .string text]] w (DoPost (doTo T kind text).1 (doTo T kind text).2 w) := by
  cases hok : okT T with
  | false =>
    rw [doTo_bad kind text hok]
    exact sDoBad T A B n c m d kind text w hT hs hx hok
  | true =>
    by_cases hc : ((kind < 0 ∨ 1 < kind) ∧ ¬(kind = 2 ∧ text = ⟨#[]⟩ ∧ 0 < T.past.length)) ∨ (0 ≤ kind ∧ kind ≤ 1 ∧ isT T.things text = false)
    · rw [doTo_no hok (sDo_none hc)]
      exact sDoOut T A B n c m d kind text w hT hs hx hok hc
    by_cases h2 : kind = 2 ∧ text = ⟨#[]⟩ ∧ 0 < T.past.length
    · obtain ⟨rfl, rfl, hp⟩ := h2
      obtain ⟨X, hX⟩ : ∃ X, doT T 2 ⟨#[]⟩ = some X := by
        unfold doT talkDo
        rw [if_pos rfl, if_pos (show (ByteArray.mk #[]) = asksT.none from rfl), List.getLast?_eq_getElem?, List.getElem?_eq_getElem (by omega)]
        exact ⟨_, rfl⟩
      rw [doTo_yes hok hX]
      exact sDoBack T A B n c m d w hT hs hok X hX
    have h01 : 0 ≤ kind ∧ kind ≤ 1 := Classical.byContradiction fun h => hc (.inl ⟨by omega, h2⟩)
    have hS : isT T.things text = true := by
      cases h : isT T.things text with
      | true => rfl
      | false => exact absurd (.inr ⟨h01.1, h01.2, h⟩) hc
    have hk : kind = 0 ∨ kind = 1 := by omega
    clear hc h2
    rcases hk with rfl | rfl
    · cases hd : doT T 0 text with
      | none =>
        rw [doTo_no hok hd]
        exact sDoTell T A B n c m d text w hT hs hx hok hS T false (.inl ⟨hd, rfl, rfl⟩)
      | some X =>
        rw [doTo_yes hok hd]
        exact sDoTell T A B n c m d text w hT hs hx hok hS X true (.inr ⟨hd, rfl⟩)
    · cases hd : doT T 1 text with
      | none =>
        rw [doTo_no hok hd]
        exact sDoAsk T A B n c m d text w hT hs hx hok hS T false (.inl ⟨hd, rfl, rfl⟩)
      | some X =>
        rw [doTo_yes hok hd]
        exact sDoAsk T A B n c m d text w hT hs hx hok hS X true (.inr ⟨hd, rfl⟩)
end Go.Proofs.YtmdogidflaplkaaGreat

namespace Go.Proofs.YtmdogidflaplkaaGreat
open Go.RowKit

theorem doTo_ok {T : TalkV} (k : Int) (s : ByteArray) (h : okT T = true) : okT (doTo T k s).1 = true ∧ (doTo T k s).1.things = T.things ∧ SmallT (doTo T k s).1 := by
  unfold doTo
  rw [if_pos h]
  cases hd : doT T k s with
  | none => exact ⟨h, rfl, small_ok h⟩
  | some X =>
    have := do_ok asksT h hd
    exact ⟨this.1, this.2, small_ok this.1⟩
end Go.Proofs.YtmdogidflaplkaaGreat
