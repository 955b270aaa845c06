/-
  What the proofs of this seat's statements share (MathX, MathY, StrO, StaO).
-/
import Derived.Test.YtmdogidflaplkaaU6
import Derived.Test.YtmdogidflaplkaaU19
import Derived.Test.YtmdogidflaplkaaU2
import Derived.Test.YtmdogidflaplkaaU4

namespace Go.Proofs.Ytmdogidflaplkaa
open Go.RowKit

structure St (α : Type) where
  known : Int
  op : List α
structure Tk (α : Type) where
  things : Int
  now : St α
  past : List (St α)
/-- What is asked of texts. -/
structure Asks (α : Type) where
  isS : Int → α → Bool
  sett : Int → Int → α → Bool
  tru : Int → α → Int
  none : α
section
variable {α : Type} [DecidableEq α] (Q : Asks α)

def stateOk (t : Int) (x : St α) : Bool :=
  setOkB t x.known && decide (x.known ≠ 0) && decide (x.op.length ≤ 4) && x.op.all (fun s => Q.isS t s && !Q.sett t x.known s) && decide x.op.Nodup
def talkOk (T : Tk α) : Bool := stateOk Q T.things T.now && decide (T.past.length ≤ 10) && T.past.all (stateOk Q T.things)
def keep10 (l : List (St α)) : List (St α) := if 10 < l.length then l.tail else l
def pushT (T : Tk α) (x : St α) : Tk α := ⟨T.things, x, keep10 (T.past ++ [T.now])⟩
/-- A talk after a deed; none where it cannot be done. -/
def talkDo (T : Tk α) (kind : Int) (text : α) : Option (Tk α) :=
  if kind = 2 then
    if text = Q.none then
      match T.past.getLast? with
      | some x => some ⟨T.things, x, T.past.dropLast⟩
      | Option.none => Option.none
    else Option.none
  else if kind = 0 then
    if Q.isS T.things text = true then
      let k := andI T.now.known (Q.tru T.things text)
      if k = 0 ∨ k = T.now.known then Option.none else some (pushT T ⟨k, T.now.op.filter fun s => !Q.sett T.things k s⟩)
    else Option.none
  else if kind = 1 then
    if Q.isS T.things text = true then
      if withinB T.now.known (Q.tru T.things text) = true ∧ stateOk Q T.things ⟨T.now.known, T.now.op ++ [text]⟩ = true then some (pushT T ⟨T.now.known, T.now.op ++ [text]⟩) else Option.none
    else Option.none
  else Option.none
theorem state_parts {t : Int} {x : St α} : stateOk Q t x = true ↔ setOkB t x.known = true ∧ x.known ≠ 0 ∧ x.op.length ≤ 4 ∧ (∀ s ∈ x.op, Q.isS t s = true ∧ Q.sett t x.known s = false) ∧ x.op.Nodup := by
  unfold stateOk
  simp only [Bool.and_eq_true, decide_eq_true_eq, List.all_eq_true, Bool.not_eq_true']
  constructor
  · rintro ⟨⟨⟨⟨a, b⟩, c⟩, d⟩, e⟩; exact ⟨a, b, c, d, e⟩
  · rintro ⟨a, b, c, d, e⟩; exact ⟨⟨⟨⟨a, b⟩, c⟩, d⟩, e⟩
theorem talk_parts {T : Tk α} : talkOk Q T = true ↔ stateOk Q T.things T.now = true ∧ T.past.length ≤ 10 ∧ ∀ x ∈ T.past, stateOk Q T.things x = true := by
  unfold talkOk
  simp only [Bool.and_eq_true, decide_eq_true_eq, List.all_eq_true]
  exact and_assoc
/-- Talks can forget. -/
theorem talk_forget {T : Tk α} (h : talkOk Q T = true) : talkOk Q ⟨T.things, T.now, []⟩ = true :=
  (talk_parts Q).2 ⟨((talk_parts Q).1 h).1, Nat.zero_le _, fun x hx => by cases hx⟩
theorem push_ok {T : Tk α} {x : St α} (h : talkOk Q T = true) (hx : stateOk Q T.things x = true) : talkOk Q (pushT T x) = true := by
  obtain ⟨h1, h2, h3⟩ := (talk_parts Q).1 h
  have hall : ∀ y ∈ T.past ++ [T.now], stateOk Q T.things y = true := fun y hy => by
    rcases List.mem_append.1 hy with hy | hy
    · exact h3 y hy
    · obtain rfl := List.mem_singleton.1 hy; exact h1
  refine (talk_parts Q).2 ⟨hx, ?_, fun y hy => ?_⟩
  · show (keep10 (T.past ++ [T.now])).length ≤ 10
    unfold keep10
    split
    · rw [List.length_tail, List.length_append]; simp; omega
    · omega
  · have hy : y ∈ keep10 (T.past ++ [T.now]) := hy
    unfold keep10 at hy
    split at hy
    · exact hall y (List.mem_of_mem_tail hy)
    · exact hall y hy
/-- What a tell leaves of the open questions. -/
theorem tell_state {T : Tk α} {k : Int} (h : talkOk Q T = true) (hk : setOkB T.things k = true) (h0 : k ≠ 0) : stateOk Q T.things ⟨k, T.now.op.filter fun s => !Q.sett T.things k s⟩ = true := by
  obtain ⟨h1, _, _⟩ := (talk_parts Q).1 h
  obtain ⟨_, _, c, d, e⟩ := (state_parts Q).1 h1
  refine (state_parts Q).2 ⟨hk, h0, Nat.le_trans (List.length_filter_le _ _) c, fun s hs => ?_, e.filter _⟩
  obtain ⟨hs1, hs2⟩ := List.mem_filter.1 hs
  exact ⟨(d s hs1).1, by simpa using hs2⟩
theorem and_set {t k : Int} (q : Int) (h : setOkB t k = true) : setOkB t (andI k q) = true := by
  obtain ⟨h1, h3, h0, ha, _⟩ := setOkB_lt h
  have := andI_le k q h0
  have := andI_nonneg k q
  exact decide_eq_true ⟨h1, h3, by omega, by omega⟩
/-- Whatever is done, it is a talk. -/
theorem do_ok {T X : Tk α} {kind : Int} {text : α} (h : talkOk Q T = true) (hd : talkDo Q T kind text = some X) : talkOk Q X = true ∧ X.things = T.things := by
  obtain ⟨h1, h2, h3⟩ := (talk_parts Q).1 h
  unfold talkDo at hd
  split at hd
  · split at hd
    · split at hd
      · rename_i x hx
        cases hd
        have hm := List.mem_of_getLast? hx
        refine ⟨(talk_parts Q).2 ⟨h3 x hm, ?_, fun y hy => h3 y ((List.dropLast_sublist _).subset hy)⟩, rfl⟩
        show T.past.dropLast.length ≤ 10
        rw [List.length_dropLast]; omega
      · cases hd
    · cases hd
  split at hd
  · split at hd
    · simp only at hd
      split at hd
      · cases hd
      · rename_i hk
        cases hd
        exact ⟨push_ok Q h (tell_state Q h (and_set _ ((state_parts Q).1 h1).1) fun e => hk (.inl e)), rfl⟩
    · cases hd
  split at hd
  · split at hd
    · split at hd
      · rename_i hk
        cases hd
        exact ⟨push_ok Q h hk.2, rfl⟩
      · cases hd
    · cases hd
  · cases hd
/-- What was done can be undone. -/
theorem do_back {T X : Tk α} {kind : Int} {text : α} (hd : talkDo Q T kind text = some X) (hk : kind ≠ 2) (hp : T.past.length < 10) : talkDo Q X 2 Q.none = some T := by
  have key : ∀ x : St α, talkDo Q (pushT T x) 2 Q.none = some T := fun x => by
    unfold talkDo pushT keep10
    rw [if_pos rfl, if_pos rfl, if_neg (by rw [List.length_append]; simp; omega)]
    simp
  unfold talkDo at hd
  rw [if_neg hk] at hd
  split at hd
  · split at hd
    · simp only at hd
      split at hd
      · cases hd
      · cases hd; exact key _
    · cases hd
  split at hd
  · split at hd
    · split at hd
      · cases hd; exact key _
      · cases hd
    · cases hd
  · cases hd
/-- What is told is true in all worlds that are left. -/
theorem do_told {T X : Tk α} {text : α} (hd : talkDo Q T 0 text = some X) : withinB X.now.known (Q.tru T.things text) = true := by
  unfold talkDo at hd
  rw [if_neg (by decide), if_pos rfl] at hd
  split at hd
  · simp only at hd
    split at hd
    · cases hd
    · cases hd
      exact within_andI_right _ _
  · cases hd
/-- No open question is settled. -/
theorem open_unsettled {T : Tk α} (h : talkOk Q T = true) : ∀ s ∈ T.now.op, Q.isS T.things s = true ∧ Q.sett T.things T.now.known s = false :=
  ((state_parts Q).1 ((talk_parts Q).1 h).1).2.2.2.1
/-- A talk after deeds, and how many were done. -/
def runStep (p : Tk α × Nat) (d : Int × α) : Tk α × Nat := match talkDo Q p.1 d.1 d.2 with | some X => (X, p.2 + 1) | Option.none => p
def talkRun (T : Tk α) (l : List (Int × α)) : Tk α × Nat := l.foldl (runStep Q) (T, 0)
theorem step_ok {p : Tk α × Nat} (d : Int × α) (h : talkOk Q p.1 = true) : talkOk Q (runStep Q p d).1 = true ∧ (runStep Q p d).1.things = p.1.things := by
  unfold runStep
  cases hd : talkDo Q p.1 d.1 d.2 with
  | none => exact ⟨h, rfl⟩
  | some X => exact do_ok Q h hd
theorem steps_ok : ∀ (l : List (Int × α)) {p : Tk α × Nat}, talkOk Q p.1 = true → talkOk Q (l.foldl (runStep Q) p).1 = true ∧ (l.foldl (runStep Q) p).1.things = p.1.things
  | [], _, h => ⟨h, rfl⟩
  | d :: l, p, h => by
    obtain ⟨a, b⟩ := step_ok Q d h
    obtain ⟨c, e⟩ := steps_ok l a
    exact ⟨c, e.trans b⟩
theorem run_ok (l : List (Int × α)) {T : Tk α} (h : talkOk Q T = true) : talkOk Q (talkRun Q T l).1 = true ∧ (talkRun Q T l).1.things = T.things := steps_ok Q l (p := (T, 0)) h
theorem step_shift (T : Tk α) (n m : Nat) (d : Int × α) : runStep Q (T, n + m) d = ((runStep Q (T, m) d).1, n + (runStep Q (T, m) d).2) := by
  unfold runStep
  simp only
  cases talkDo Q T d.1 d.2 <;> rfl
theorem steps_shift : ∀ (l : List (Int × α)) (T : Tk α) (n m : Nat), l.foldl (runStep Q) (T, n + m) = ((l.foldl (runStep Q) (T, m)).1, n + (l.foldl (runStep Q) (T, m)).2)
  | [], _, _, _ => rfl
  | d :: l, T, n, m => by
    show l.foldl (runStep Q) (runStep Q (T, n + m) d) = ((l.foldl (runStep Q) (runStep Q (T, m) d)).1, n + (l.foldl (runStep Q) (runStep Q (T, m) d)).2)
    rw [step_shift]
    exact steps_shift l _ n _
/-- In two parts, one after the other, it is the same. -/
theorem run_append (a b : List (Int × α)) (T : Tk α) : talkRun Q T (a ++ b) = ((talkRun Q (talkRun Q T a).1 b).1, (talkRun Q T a).2 + (talkRun Q (talkRun Q T a).1 b).2) := by
  unfold talkRun
  rw [List.foldl_append]
  exact steps_shift Q b (a.foldl (runStep Q) (T, 0)).1 (a.foldl (runStep Q) (T, 0)).2 0
theorem run_snoc (l : List (Int × α)) (d : Int × α) (T : Tk α) : talkRun Q T (l ++ [d]) = runStep Q (talkRun Q T l) d := by
  unfold talkRun
  rw [List.foldl_append]; rfl
end
end Go.Proofs.Ytmdogidflaplkaa

namespace Go.Proofs.Ytmdogidflaplkaa
open Go.RowKit

def bL (s : ByteArray) : List UInt8 := s.data.toList
def ofL (l : List UInt8) : ByteArray := ⟨l.toArray⟩
theorem bL_of (l : List UInt8) : bL (ofL l) = l := rfl
theorem of_bL (s : ByteArray) : ofL (bL s) = s := rfl
theorem bL_inj {s u : ByteArray} (h : bL s = bL u) : s = u := by rw [← of_bL s, h, of_bL]
theorem bL_size (s : ByteArray) : (bL s).length = s.size := rfl
/-- The text of a deed, the deed of a text. -/
def deedB (d : Int × ByteArray) : ByteArray := ofL (deedU ⟨d.1, bL d.2⟩)
def readB (s : ByteArray) : Option (Int × ByteArray) := (readU (bL s)).map fun d => (d.kind, ofL d.text)
theorem readB_iff {s : ByteArray} {d : Int × ByteArray} : readB s = some d ↔ deedB d = s ∧ bL s ≠ [] := by
  unfold readB deedB
  rw [Option.map_eq_some_iff]
  constructor
  · rintro ⟨x, hx, rfl⟩
    obtain ⟨h1, h2⟩ := read_deed hx
    exact ⟨bL_inj (by rw [bL_of, bL_of]; exact h1), h2⟩
  · rintro ⟨rfl, h⟩
    exact ⟨⟨d.1, bL d.2⟩, deed_read h, rfl⟩
def numU (n : Nat) : List UInt8 := if n < 10 then [(48 + n).toUInt8] else numU (n / 10) ++ [(48 + n % 10).toUInt8]
theorem num_ne (n : Nat) : numU n ≠ [] := by
  unfold numU
  split <;> simp
def knownU : List UInt8 := [107, 110, 111, 119, 110]
def openU : List UInt8 := [111, 112, 101, 110]
def nowU : List UInt8 := [110, 111, 119]
def pastU : List UInt8 := [112, 97, 115, 116]
def settledU : List UInt8 := [115, 101, 116, 116, 108, 101, 100]
def possibleU : List UInt8 := [112, 111, 115, 115, 105, 98, 108, 101]
def senseU : List UInt8 := [115, 101, 110, 115, 101]
def noneU : List UInt8 := [110, 111, 110, 101]
def whatU : List UInt8 := [119, 104, 97, 116]
def okU : List UInt8 := [111, 107]
def noU : List UInt8 := [110, 111]
def yesU : List UInt8 := [121, 101, 115]
def yesNo (b : Bool) : List UInt8 := if b = true then yesU else noU
/-- The word ahead of the first space, and what is behind it. -/
def splitU (l : List UInt8) : Option (List UInt8 × List UInt8) :=
  if (32 : UInt8) ∈ l then some (l.takeWhile (fun c => c != 32), (l.dropWhile (fun c => c != 32)).tail) else none
theorem split_at {w r : List UInt8} (h : (32 : UInt8) ∉ w) : splitU (w ++ 32 :: r) = some (w, r) := by
  unfold splitU
  rw [if_pos (by simp)]
  have h1 : ∀ c ∈ w, (c != 32) = true := fun c hc => by
    rw [bne_iff_ne]
    rintro rfl; exact h hc
  rw [List.takeWhile_append_of_pos h1, List.dropWhile_append_of_pos h1]
  simp
section
variable (Q : Asks ByteArray) (isL : Int → ByteArray → Bool) (sense : Int → Int → ByteArray → Bool)
/-- What a question is answered; the talk stays as it is. -/
def askU8 (T : Tk ByteArray) (l : List UInt8) : List UInt8 :=
  if l = knownU then numU T.now.known.toNat
  else if l = openU then numU T.now.op.length
  else if l = nowU then (match T.now.op.getLast? with | some s => bL s | Option.none => noneU)
  else if l = pastU then numU T.past.length
  else match splitU l with
    | Option.none => whatU
    | some (w, r) =>
      if w = settledU ∧ Q.isS T.things (ofL r) = true then yesNo (Q.sett T.things T.now.known (ofL r))
      else if w = possibleU ∧ Q.isS T.things (ofL r) = true then yesNo (decide (andI T.now.known (Q.tru T.things (ofL r)) ≠ 0))
      else if w = senseU ∧ isL T.things (ofL r) = true then yesNo (sense T.things T.now.known (ofL r))
      else whatU
/-- The talk after a line, and the answer. -/
def talkLine (T : Tk ByteArray) (line : ByteArray) : Tk ByteArray × List UInt8 :=
  match readB line with
  | some d => (match talkDo Q T d.1 d.2 with | some X => (X, okU) | Option.none => (T, noU))
  | Option.none => (T, askU8 Q isL sense T (bL line))
theorem line_ok {T : Tk ByteArray} (line : ByteArray) (h : talkOk Q T = true) : talkOk Q (talkLine Q isL sense T line).1 = true ∧ (talkLine Q isL sense T line).1.things = T.things := by
  unfold talkLine
  cases hr : readB line with
  | none => exact ⟨h, rfl⟩
  | some d =>
    simp only
    cases hd : talkDo Q T d.1 d.2 with
    | none => exact ⟨h, rfl⟩
    | some X => exact do_ok Q h hd
/-- Unless the answer is ok, it is the talk before. -/
theorem line_same (T : Tk ByteArray) (line : ByteArray) : (talkLine Q isL sense T line).2 = okU ∨ (talkLine Q isL sense T line).1 = T := by
  unfold talkLine
  cases hr : readB line with
  | none => exact .inr rfl
  | some d =>
    simp only
    cases hd : talkDo Q T d.1 d.2 with
    | none => exact .inr rfl
    | some X => exact .inl rfl
theorem line_space (T : Tk ByteArray) : talkLine Q isL sense T (ofL [32]) = (T, whatU) := by
  unfold talkLine
  rw [show readB (ofL [32]) = Option.none by decide]
  simp only
  rw [bL_of]
  unfold askU8
  rw [if_neg (by decide), if_neg (by decide), if_neg (by decide), if_neg (by decide), show splitU [32] = some ([], []) by decide]
  simp only
  rw [if_neg (by simp [settledU]), if_neg (by simp [possibleU]), if_neg (by simp [senseU])]
/-- A line that is the text of a deed is done. -/
theorem line_deed (T : Tk ByteArray) {d : Int × ByteArray} (h : bL (deedB d) ≠ []) : talkLine Q isL sense T (deedB d) = match talkDo Q T d.1 d.2 with | some X => (X, okU) | Option.none => (T, noU) := by
  unfold talkLine
  rw [readB_iff.2 ⟨rfl, h⟩]
/-- No answer is empty. -/
theorem yes_ne (b : Bool) : yesNo b ≠ [] := by cases b <;> decide
theorem ask_ne {T : Tk ByteArray} (h : talkOk Q T = true) (hS : ∀ t s, Q.isS t s = true → bL s ≠ []) (l : List UInt8) : askU8 Q isL sense T l ≠ [] := by
  unfold askU8
  split
  · exact num_ne _
  split
  · exact num_ne _
  split
  · split
    · rename_i s hs
      exact hS _ _ (open_unsettled Q h s (List.mem_of_getLast? hs)).1
    · decide
  split
  · exact num_ne _
  split
  · decide
  split
  · exact yes_ne _
  split
  · exact yes_ne _
  split
  · exact yes_ne _
  · decide
theorem line_ne {T : Tk ByteArray} (h : talkOk Q T = true) (hS : ∀ t s, Q.isS t s = true → bL s ≠ []) (line : ByteArray) : (talkLine Q isL sense T line).2 ≠ [] := by
  unfold talkLine
  cases hr : readB line with
  | none => exact ask_ne Q isL sense h hS _
  | some d =>
    simp only
    cases hd : talkDo Q T d.1 d.2 with
    | none => show noU ≠ []; decide
    | some X => show okU ≠ []; decide
/-- The talk after lines, and the answers. -/
def sayStep (p : Tk ByteArray × List (List UInt8)) (line : ByteArray) : Tk ByteArray × List (List UInt8) := ((talkLine Q isL sense p.1 line).1, p.2 ++ [(talkLine Q isL sense p.1 line).2])
def talkSay (T : Tk ByteArray) (lines : List ByteArray) : Tk ByteArray × List (List UInt8) := lines.foldl (sayStep Q isL sense) (T, [])
theorem says_shift : ∀ (l : List ByteArray) (T : Tk ByteArray) (a b : List (List UInt8)), l.foldl (sayStep Q isL sense) (T, a ++ b) = ((l.foldl (sayStep Q isL sense) (T, b)).1, a ++ (l.foldl (sayStep Q isL sense) (T, b)).2)
  | [], _, _, _ => rfl
  | d :: l, T, a, b => by
    show l.foldl (sayStep Q isL sense) ((talkLine Q isL sense T d).1, (a ++ b) ++ [(talkLine Q isL sense T d).2]) = ((l.foldl (sayStep Q isL sense) ((talkLine Q isL sense T d).1, b ++ [(talkLine Q isL sense T d).2])).1, a ++ (l.foldl (sayStep Q isL sense) ((talkLine Q isL sense T d).1, b ++ [(talkLine Q isL sense T d).2])).2)
    rw [List.append_assoc]
    exact says_shift l _ a _
/-- Two parts of the lines, one after the other, lead to the same talk and the same answers. -/
theorem say_append (a b : List ByteArray) (T : Tk ByteArray) : talkSay Q isL sense T (a ++ b) = ((talkSay Q isL sense (talkSay Q isL sense T a).1 b).1, (talkSay Q isL sense T a).2 ++ (talkSay Q isL sense (talkSay Q isL sense T a).1 b).2) := by
  unfold talkSay
  rw [List.foldl_append]
  have := says_shift Q isL sense b (a.foldl (sayStep Q isL sense) (T, [])).1 (a.foldl (sayStep Q isL sense) (T, [])).2 []
  rw [List.append_nil] at this
  exact this
theorem says_ok (hS : ∀ t s, Q.isS t s = true → bL s ≠ []) : ∀ (l : List ByteArray) {p : Tk ByteArray × List (List UInt8)}, talkOk Q p.1 = true → (∀ x ∈ p.2, x ≠ []) →
    talkOk Q (l.foldl (sayStep Q isL sense) p).1 = true ∧ (l.foldl (sayStep Q isL sense) p).1.things = p.1.things ∧ (∀ x ∈ (l.foldl (sayStep Q isL sense) p).2, x ≠ []) ∧ (l.foldl (sayStep Q isL sense) p).2.length = p.2.length + l.length
  | [], _, h, hp => ⟨h, rfl, hp, rfl⟩
  | d :: l, p, h, hp => by
    obtain ⟨h1, h2⟩ := line_ok Q isL sense d h
    obtain ⟨a, b, c, e⟩ := says_ok hS l (p := sayStep Q isL sense p d) h1 fun x hx => by
      rcases List.mem_append.1 hx with hx | hx
      · exact hp x hx
      · rw [List.mem_singleton.1 hx]; exact line_ne Q isL sense h hS d
    refine ⟨a, b.trans h2, c, e.trans ?_⟩
    show (p.2 ++ [_]).length + l.length = _
    simp
    omega
theorem say_ok {T : Tk ByteArray} (l : List ByteArray) (h : talkOk Q T = true) (hS : ∀ t s, Q.isS t s = true → bL s ≠ []) :
    talkOk Q (talkSay Q isL sense T l).1 = true ∧ (talkSay Q isL sense T l).1.things = T.things ∧ (∀ x ∈ (talkSay Q isL sense T l).2, x ≠ []) ∧ (talkSay Q isL sense T l).2.length = l.length := by
  obtain ⟨a, b, c, e⟩ := says_ok Q isL sense hS l (p := (T, [])) h fun x hx => by cases hx
  exact ⟨a, b, c, by rw [show talkSay Q isL sense T l = l.foldl (sayStep Q isL sense) (T, []) from rfl, e]; simp⟩
/-- The question that is answered to be open last is answered not to be settled. -/
theorem settled_no {T : Tk ByteArray} (h : talkOk Q T = true) {s : ByteArray} (hs : T.now.op.getLast? = some s) : talkLine Q isL sense T (ofL (settledU ++ 32 :: bL s)) = (T, noU) := by
  obtain ⟨h1, h2⟩ := open_unsettled Q h s (List.mem_of_getLast? hs)
  have hr : readB (ofL (settledU ++ 32 :: bL s)) = Option.none := by
    unfold readB
    rw [bL_of]
    unfold readU
    rw [if_neg (by simp [settledU, backU]), if_neg (by simp [settledU, tellU]), if_neg (by simp [settledU, askU])]
    rfl
  unfold talkLine
  rw [hr]
  simp only
  rw [bL_of]
  unfold askU8
  rw [if_neg (by simp [settledU, knownU]), if_neg (by simp [settledU, openU]), if_neg (by simp [settledU, nowU]), if_neg (by simp [settledU, pastU]), split_at (by decide)]
  simp only
  rw [of_bL, if_pos ⟨by trivial, h1⟩, h2]
  rfl
theorem now_line (T : Tk ByteArray) : talkLine Q isL sense T (ofL nowU) = (T, match T.now.op.getLast? with | some s => bL s | Option.none => noneU) := by
  unfold talkLine
  rw [show readB (ofL nowU) = Option.none by decide]
  simp only
  rw [bL_of]
  unfold askU8
  rw [if_neg (by decide), if_neg (by decide), if_pos rfl]
/-- Said line by line deeds lead where TalkRun leads. -/
theorem say_run (T : Tk ByteArray) : ∀ l : List (Int × ByteArray), (∀ d ∈ l, bL (deedB d) ≠ []) → (l.map deedB).foldl (fun T line => (talkLine Q isL sense T line).1) T = (talkRun Q T l).1 := by
  intro l
  suffices ∀ (l : List (Int × ByteArray)) (p : Tk ByteArray × Nat), (∀ d ∈ l, bL (deedB d) ≠ []) → (l.map deedB).foldl (fun T line => (talkLine Q isL sense T line).1) p.1 = (l.foldl (runStep Q) p).1 from this l (T, 0)
  intro l
  induction l with
  | nil => intro p _; rfl
  | cons d l ih =>
    intro p h
    have e : (talkLine Q isL sense p.1 (deedB d)).1 = (runStep Q p d).1 := by
      rw [line_deed Q isL sense p.1 (h d (by simp))]
      unfold runStep
      cases talkDo Q p.1 d.1 d.2 <;> rfl
    show (l.map deedB).foldl _ (talkLine Q isL sense p.1 (deedB d)).1 = (l.foldl (runStep Q) (runStep Q p d)).1
    rw [e]
    exact ih (runStep Q p d) fun x hx => h x (by simp [hx])
end
end Go.Proofs.Ytmdogidflaplkaa

namespace Go.Proofs.Ytmdogidflaplkaa
open Go.RowKit

theorem str_info : (Try.prog.info? 9).map (fun i => (i.zero, i.size, i.bytes)) = some (some (.string ByteArray.empty), 1, 16) := by kernel_rfl
/-- The slice at A reads as the texts xs. -/
def Strs (w : World) (A : Option Addr) (xs : List ByteArray) : Prop :=
  0 < xs.length → ∃ b off, A = some ⟨b, off, none⟩ ∧ b < w.heap.size ∧ ∀ i, i < xs.length → w.cell? ⟨b, off + i, none⟩ = some (.string (xs.getD i ByteArray.empty))

theorem Strs.nil (w : World) (A : Option Addr) : Strs w A [] := fun h => absurd h (by simp)
theorem Strs.keep {w w' : World} {A : Option Addr} {xs : List ByteArray} (h : Strs w A xs) (hs : w.heap.size ≤ w'.heap.size) (hk : ∀ b, b < w.heap.size → (∀ ad, A = some ad → ad.block = b → w'.heap[b]? = w.heap[b]?)) : Strs w' A xs := by
  intro hn
  obtain ⟨b, off, rfl, hb, hc⟩ := h hn
  exact ⟨b, off, rfl, by omega, fun i hi => (World.cell?_of_block (hk b hb _ rfl rfl)).trans (hc i hi)⟩
theorem Strs.below {w w' : World} {A : Option Addr} {xs : List ByteArray} (h : Strs w A xs) (hb : Below w.heap.size w w') : Strs w' A xs :=
  h.keep hb.size fun b hlt _ _ _ => hb.block b hlt
theorem Strs.drewN {w : World} {A : Option Addr} {xs : List ByteArray} (h : Strs w A xs) (n : Nat) : Strs (w.drewN n) A xs := h
theorem Strs.alloc {w : World} {A : Option Addr} {xs : List ByteArray} (h : Strs w A xs) (o : Obj) : Strs (w.alloc o) A xs :=
  h.below ((Below.refl _ _).alloc (Nat.le_refl _) o)
theorem Strs.grown {w w' : World} {A : Option Addr} {xs : List ByteArray} {row : Option Nat} (h : Strs w A xs) (hg : w.grownBy w' row) (hr : ∀ ad, A = some ad → some ad.block ≠ row) : Strs w' A xs :=
  h.keep hg.size fun b hlt ad ha hab => hg.block b hlt (by rw [← hab]; exact hr ad ha)
theorem Strs.drop {w : World} {A : Option Addr} {xs : List ByteArray} (h : Strs w A xs) {j c : Nat} (hc : xs.length ≤ c) :
    Strs w (if c = j then A else A.map (·.add j)) (xs.drop j) := by
  intro hn
  rw [List.length_drop] at hn
  obtain ⟨b, off, rfl, hb, hcell⟩ := h (by omega)
  rw [if_neg (by omega)]
  refine ⟨b, off + j, by simp only [Option.map_some, Addr.add]; split <;> simp_all, hb, fun i hi => ?_⟩
  rw [List.length_drop] at hi
  rw [Nat.add_assoc, hcell (j + i) (by omega)]
  simp [List.getElem?_drop]
theorem Strs.from_ {w : World} {b off : Nat} {xs : List ByteArray} (h : Strs w (some ⟨b, off, none⟩) xs) (j : Nat) : Strs w (some ⟨b, off + j, none⟩) (xs.drop j) := by
  intro hn
  rw [List.length_drop] at hn
  obtain ⟨b', off', hA, hb, hcell⟩ := h (by omega)
  cases hA
  refine ⟨b, off + j, rfl, hb, fun i hi => ?_⟩
  rw [List.length_drop] at hi
  rw [Nat.add_assoc, hcell (j + i) (by omega)]
  simp [List.getElem?_drop]
theorem Strs.none_ {w : World} {A : Option Addr} {xs : List ByteArray} (h : xs.length = 0) : Strs w A xs := fun hn => by omega
theorem Strs.take {w : World} {A : Option Addr} {xs : List ByteArray} (h : Strs w A xs) (j : Nat) : Strs w A (xs.take j) := by
  intro hn
  rw [List.length_take] at hn
  obtain ⟨b, off, rfl, hb, hcell⟩ := h (by omega)
  refine ⟨b, off, rfl, hb, fun i hi => ?_⟩
  rw [List.length_take] at hi
  rw [hcell i (by omega)]
  simp [show i < j by omega]

/-- A slice of the call's own: the value v, from block 'base' on, holds the texts xs. -/
def OwnsS (w : World) (base : Nat) (v : Value) (xs : List ByteArray) : Prop := w.ownsRow base 9 1 v xs.length (xs.map (Value.string))

theorem OwnsS.form {w : World} {base : Nat} {v : Value} {xs : List ByteArray} (h : OwnsS w base v xs) :
    ∃ A c, v = .slice A xs.length c ∧ xs.length ≤ c ∧ c ≤ maxLen ∧ Strs w A xs ∧ (∀ ad, A = some ad → base ≤ ad.block ∧ ad.block < w.heap.size) := by
  have hcells := fun g => World.ownsRow.cells h (g := g)
  rcases h.2 with ⟨rfl, hl⟩ | ⟨g, cap, cur, rfl, hb, hg, hn, hm, _, _⟩
  · exact ⟨none, 0, by rw [hl], by omega, by simp [maxLen], fun hp => absurd hp (by omega), fun ad h => by cases h⟩
  · have hlt : g < w.heap.size := (Array.getElem?_eq_some_iff.1 hg).1
    refine ⟨some ⟨g, 0, none⟩, cap, rfl, hn, hm, fun hp => ⟨g, 0, rfl, hlt, fun i hi => ?_⟩, fun ad h => by cases h; exact ⟨hb, hlt⟩⟩
    have hi2 : (xs.map (Value.string))[i]? = some (.string (xs.getD i ByteArray.empty)) := by simp [hi]
    have := hcells g rfl i _ hi2
    have e : (⟨g, 0, none⟩ : Addr).add i = ⟨g, 0 + i, none⟩ := by unfold Addr.add; split <;> simp_all
    rw [e] at this
    exact this
theorem OwnsS.kept {w w' : World} {base : Nat} {v : Value} {xs : List ByteArray} (h : OwnsS w base v xs) {row : Option Nat} (hg : w.grownBy w' row) (hne : v.ownBlock = none ∨ v.ownBlock ≠ row) : OwnsS w' base v xs :=
  World.ownsRow.kept h hg hne
theorem OwnsS.below {w w' : World} {base : Nat} {v : Value} {xs : List ByteArray} (h : OwnsS w base v xs) (hb : Below w.heap.size w w') : OwnsS w' base v xs :=
  World.ownsRow.kept (row := none) h ⟨hb.os, hb.tape, hb.output, hb.size, fun k hk _ => hb.block k hk⟩ (by cases v.ownBlock <;> simp)
theorem OwnsS.base {w : World} {base base' : Nat} {v : Value} {xs : List ByteArray} (h : OwnsS w base v xs) (hb : base' ≤ base) : OwnsS w base' v xs := by
  refine ⟨h.1, ?_⟩
  rcases h.2 with h | ⟨g, cap, cur, h1, h2, h3⟩
  · exact .inl h
  · exact .inr ⟨g, cap, cur, h1, by omega, h3⟩
theorem OwnsS.nil (w : World) (base : Nat) : OwnsS w base (.slice none 0 0) [] := World.ownsRow_nil w base _ 1

theorem OwnsS.lit (w : World) (base : Nat) (xs : List ByteArray) (hb : base ≤ w.heap.size) (hm : xs.length ≤ maxLen) :
    OwnsS (w.alloc (.cells (xs.map (Value.string)).toArray 9)) base (.slice (some ⟨w.heap.size, 0, none⟩) xs.length xs.length) xs := by
  have h := World.ownsRow_lit (base := base) (e := 9) (size := 1) w (xs.map (Value.string)).toArray xs.length hb hm (by simp)
  simpa [OwnsS] using h

theorem wp_appendS {W : World} {ops : Array Oper} {rest : List Oper} {o : Oper} {a : Act} {Q : Exit → Act → World → Prop} (hgd : o.guard = none) (s x : Operand)
    (ho : o.op = .call { callee := .builtin .append, args := #[s, x], argTypes := #[23, 23] }) (base : Nat) (v : Value) (xs : List ByteArray) (hs : a.eval s = v) (hown : OwnsS W base v xs)
    (y : ByteArray) (hx : a.eval x = .slice (some ⟨W.heap.size, 0, none⟩) 1 1) (hl : xs.length ≤ 1048576) (hb : base ≤ W.heap.size)
    (h : ∀ v' w', OwnsS w' base v' (xs ++ [y]) → (W.alloc (.cells #[.string y] 9)).grownBy w' v.ownBlock → wpList Try.prog ops Q rest (a.put o.dst v') w') :
    wpList Try.prog ops Q (o :: rest) a (W.alloc (.cells #[.string y] 9)) := by
  obtain ⟨i0, hi0, hz0, hz1, hz2⟩ := info_parts str_info
  refine wpList_append_own _ hgd s x 23 ho base 9 i0 (.string ByteArray.empty) 1 16 Try.underlying23 hi0 hz0 hz1 hz2 rfl (by decide) v xs.length (xs.map (Value.string)) hs (World.ownsRow.alloc hown _)
    ⟨W.heap.size, 0, none⟩ 1 1 [.string y] hx rfl (cell_one_new _ _ _) (fun u hu => by rw [List.mem_singleton] at hu; subst hu; rfl) (by simp only [maxLen]; omega) (by omega) (by rw [World.size_alloc]; omega) ?_
  intro v' w' h1 h2 _
  refine h v' w' ?_ h2
  unfold OwnsS
  simpa using h1
/-- What an append of the call's own row leaves below a block that is older than the row. -/
theorem below_appendS {B : Nat} {a W w' : World} {base : Nat} {v : Value} {xs : List ByteArray} {o : Obj} (h : Below B a W) (hB : B ≤ W.heap.size) (hown : OwnsS W base v xs) (hbase : B ≤ base) (hg : (W.alloc o).grownBy w' v.ownBlock) : Below B a w' :=
  (h.alloc hB o).grown hg (by simp; omega) fun k e => by have := (World.ownsRow.lt hown k e).1; omega

theorem wp_appendLS {W : World} {ops : Array Oper} {rest : List Oper} {o : Oper} {a : Act} {Q : Exit → Act → World → Prop} (hgd : o.guard = none) (s x : Operand)
    (ho : o.op = .call { callee := .builtin .append, args := #[s, x], argTypes := #[23, 23] }) (base : Nat) (v : Value) (xs : List ByteArray) (hs : a.eval s = v) (hown : OwnsS W base v xs)
    (ys : List ByteArray) (ad : Option Addr) (m c : Nat) (hx : a.eval x = .slice ad m c) (hm : m = ys.length) (hpos : 1 ≤ m) (hn : Strs W ad ys) (hl : xs.length + m ≤ 1048576) (hb : base ≤ W.heap.size)
    (h : ∀ v' w', OwnsS w' base v' (xs ++ ys) → W.grownBy w' v.ownBlock → wpList Try.prog ops Q rest (a.put o.dst v') w') :
    wpList Try.prog ops Q (o :: rest) a W := by
  subst hm
  obtain ⟨i0, hi0, hz0, hz1, hz2⟩ := info_parts str_info
  obtain ⟨b, off, rfl, _, hc⟩ := hn hpos
  refine wpList_append_own _ hgd s x 23 ho base 9 i0 (.string ByteArray.empty) 1 16 Try.underlying23 hi0 hz0 hz1 hz2 rfl (by decide) v xs.length (xs.map (Value.string)) hs hown
    ⟨b, off, none⟩ ys.length c (ys.map (Value.string)) hx (by simp) ?_ (fun u hu => ?_) (by simp only [maxLen]; omega) (by omega) hb ?_
  · intro j u hj
    rw [List.getElem?_map] at hj
    obtain ⟨y, hy, rfl⟩ := Option.map_eq_some_iff.1 hj
    obtain ⟨hlt, he⟩ := List.getElem?_eq_some_iff.1 hy
    have := hc j hlt
    have e : (⟨b, off, none⟩ : Addr).add j = ⟨b, off + j, none⟩ := by unfold Addr.add; split <;> simp_all
    rw [e, this, List.getD_eq_getElem?_getD, hy]; rfl
  · obtain ⟨y, _, rfl⟩ := List.mem_map.1 hu; rfl
  · intro v' w' h1 h2 _
    refine h v' w' ?_ h2
    unfold OwnsS
    rw [List.map_append, List.length_append]
    exact h1
theorem below_appendLS {B : Nat} {a W w' : World} {base : Nat} {v : Value} {xs : List ByteArray} (h : Below B a W) (hB : B ≤ W.heap.size) (hown : OwnsS W base v xs) (hbase : B ≤ base) (hg : W.grownBy w' v.ownBlock) : Below B a w' :=
  h.grown hg hB fun k e => by have := (World.ownsRow.lt hown k e).1; omega

/-- One element: its address, its cell, and (hidden from the walk) that it is the element. -/
theorem Strs.elem {w : World} {A : Option Addr} {xs : List ByteArray} (h : Strs w A xs) {i : Nat} (hi : i < xs.length) :
    ∃ b off x, A = some ⟨b, off, none⟩ ∧ w.cell? ⟨b, off + i, none⟩ = some (.string x) ∧ Hid (xs[i]? = some x) ∧ Hid (b < w.heap.size) := by
  obtain ⟨b, off, hA, hb, hc⟩ := h (by omega)
  exact ⟨b, off, _, hA, hc i hi, by show _ = _; simp [hi], hb⟩
theorem elem_memS {xs : List ByteArray} {i : Nat} {x : ByteArray} (h : Hid (xs[i]? = some x)) : x ∈ xs := List.mem_of_getElem? h.out
theorem elem_ltS {xs : List ByteArray} {i : Nat} {x : ByteArray} (h : Hid (xs[i]? = some x)) : i < xs.length := (List.getElem?_eq_some_iff.1 h.out).1
theorem take_snocS {xs : List ByteArray} {i : Nat} {x : ByteArray} (h : Hid (xs[i]? = some x)) : xs.take (i + 1) = xs.take i ++ [x] := by
  rw [List.take_succ_eq_append_getElem (elem_ltS h), (List.getElem?_eq_some_iff.1 h.out).2]
theorem drop_consS {xs : List ByteArray} {i : Nat} {x : ByteArray} (h : Hid (xs[i]? = some x)) : xs.drop i = x :: xs.drop (i + 1) := by
  rw [List.drop_eq_getElem_cons (elem_ltS h), (List.getElem?_eq_some_iff.1 h.out).2]

end Go.Proofs.Ytmdogidflaplkaa

namespace Go.Proofs.Ytmdogidflaplkaa
open Go.RowKit

/-- The cells of states whose open questions stand in the given slices. -/
def cellsX (vs : List (Int × Value)) : List Value := vs.flatMap fun v => [.int .i64 v.1, v.2]
theorem cellsX_len (vs : List (Int × Value)) : (cellsX vs).length = vs.length * 2 := by
  unfold cellsX
  induction vs with
  | nil => rfl
  | cons v vs ih => rw [List.flatMap_cons, List.length_append, ih, List.length_cons]; simp; omega
theorem cellsX_append (vs us : List (Int × Value)) : cellsX (vs ++ us) = cellsX vs ++ cellsX us := by unfold cellsX; rw [List.flatMap_append]
theorem cellsX_get : ∀ (vs : List (Int × Value)) (i : Nat) (v : Int × Value), vs[i]? = some v → (cellsX vs)[i * 2]? = some (.int .i64 v.1) ∧ (cellsX vs)[i * 2 + 1]? = some v.2
  | [], i, v, h => by simp at h
  | u :: vs, 0, v, h => by
    simp only [List.getElem?_cons_zero, Option.some.injEq] at h
    subst h
    exact ⟨rfl, rfl⟩
  | u :: vs, i + 1, v, h => by
    rw [List.getElem?_cons_succ] at h
    have ih := cellsX_get vs i v h
    have e : cellsX (u :: vs) = .int .i64 u.1 :: u.2 :: cellsX vs := rfl
    rw [e, show (i + 1) * 2 = i * 2 + 1 + 1 by omega, show i * 2 + 1 + 1 + 1 = (i * 2 + 1) + 1 + 1 by omega]
    simpa using ih

/-! Read only. -/
/-- The slice at A reads as the states xs. -/
def StaRow (w : World) (A : Option Addr) (xs : List (St ByteArray)) : Prop :=
  0 < xs.length → ∃ b off, A = some ⟨b, off, none⟩ ∧ b < w.heap.size ∧ ∀ i x, xs[i]? = some x → ∃ Ai ci, w.cell? ⟨b, off + i * 2, none⟩ = some (.int .i64 x.known) ∧ w.cell? ⟨b, off + i * 2 + 1, none⟩ = some (.slice Ai x.op.length ci) ∧
    x.op.length ≤ ci ∧ ci ≤ maxLen ∧ Strs w Ai x.op
theorem StaRow.nil (w : World) (A : Option Addr) : StaRow w A [] := fun h => absurd h (by simp)
theorem StaRow.below {w w' : World} {A : Option Addr} {xs : List (St ByteArray)} (h : StaRow w A xs) (hb : Below w.heap.size w w') : StaRow w' A xs := by
  intro hn
  obtain ⟨b, off, rfl, hlt, hc⟩ := h hn
  refine ⟨b, off, rfl, Nat.lt_of_lt_of_le hlt hb.size, fun i x hx => ?_⟩
  obtain ⟨Ai, ci, h1, h2, h3, h4, h5⟩ := hc i x hx
  exact ⟨Ai, ci, (World.cell?_of_block (hb.block b hlt)).trans h1, (World.cell?_of_block (hb.block b hlt)).trans h2, h3, h4, h5.below hb⟩
theorem StaRow.drewN {w : World} {A : Option Addr} {xs : List (St ByteArray)} (h : StaRow w A xs) (n : Nat) : StaRow (w.drewN n) A xs := by
  intro hn
  obtain ⟨b, off, rfl, hlt, hc⟩ := h hn
  exact ⟨b, off, rfl, hlt, fun i x hx => by
    obtain ⟨Ai, ci, h1, h2, h3, h4, h5⟩ := hc i x hx
    exact ⟨Ai, ci, h1, h2, h3, h4, h5.drewN n⟩⟩
/-- One state: its cells, its slice. -/
theorem StaRow.elem {w : World} {A : Option Addr} {xs : List (St ByteArray)} (h : StaRow w A xs) {i : Nat} (hi : i < xs.length) :
    ∃ b off Ai ci x, A = some ⟨b, off, none⟩ ∧ w.cell? ⟨b, off + i * 2, none⟩ = some (.int .i64 x.known) ∧ w.cell? ⟨b, off + i * 2 + 1, none⟩ = some (.slice Ai x.op.length ci) ∧ x.op.length ≤ ci ∧ ci ≤ maxLen ∧ Hid (xs[i]? = some x) ∧ Hid (Strs w Ai x.op) ∧ Hid (b < w.heap.size) := by
  obtain ⟨b, off, rfl, hlt, hc⟩ := h (by omega)
  obtain ⟨Ai, ci, h1, h2, h3, h4, h5⟩ := hc i xs[i] (List.getElem?_eq_getElem hi)
  exact ⟨b, off, Ai, ci, xs[i], rfl, h1, h2, h3, h4, List.getElem?_eq_getElem hi, h5, hlt⟩

/-! Of the call's own. -/
structure SeesX (w : World) (base : Nat) (o : Option Nat) (vs : List (Int × Value)) (xs : List (St ByteArray)) : Prop where
  len : vs.length = xs.length
  at_ : ∀ (i : Nat) (x : St ByteArray), xs[i]? = some x → ∃ v, vs[i]? = some (x.known, v) ∧ OwnsS w base v x.op ∧ (v.ownBlock = none ∨ v.ownBlock ≠ o)
structure OwnsX (e : TypeId) (w : World) (base : Nat) (v : Value) (vs : List (Int × Value)) (xs : List (St ByteArray)) : Prop where
  row : w.ownsRow base e 2 v vs.length (cellsX vs)
  sees : SeesX w base v.ownBlock vs xs
/-- No two of the slices of texts share a block. -/
def ApartX (vs : List (Int × Value)) : Prop := vs.Pairwise fun u v => ∀ k, u.2.ownBlock = some k → v.2.ownBlock ≠ some k
theorem OwnsX.nil (e : TypeId) (w : World) (base : Nat) : OwnsX e w base (.slice none 0 0) [] [] := ⟨World.ownsRow_nil w base e 2, rfl, fun i x h => by simp at h⟩
theorem SeesX.below {w w' : World} {base : Nat} {o : Option Nat} {vs : List (Int × Value)} {xs : List (St ByteArray)} (h : SeesX w base o vs xs) (hb : Below w.heap.size w w') : SeesX w' base o vs xs :=
  ⟨h.len, fun i x hx => by obtain ⟨v, h1, h2, h3⟩ := h.at_ i x hx; exact ⟨v, h1, h2.below hb, h3⟩⟩
theorem OwnsX.below {e : TypeId} {w w' : World} {base : Nat} {v : Value} {vs : List (Int × Value)} {xs : List (St ByteArray)} (h : OwnsX e w base v vs xs) (hb : Below w.heap.size w w') : OwnsX e w' base v vs xs :=
  ⟨World.ownsRow.kept (row := none) h.row ⟨hb.os, hb.tape, hb.output, hb.size, fun k hk _ => hb.block k hk⟩ (by cases v.ownBlock <;> simp), h.sees.below hb⟩
theorem OwnsX.drewN {e : TypeId} {w : World} {base : Nat} {v : Value} {vs : List (Int × Value)} {xs : List (St ByteArray)} (h : OwnsX e w base v vs xs) (n : Nat) : OwnsX e (w.drewN n) base v vs xs :=
  ⟨h.row, h.sees.len, fun i x hx => by obtain ⟨v, h1, h2, h3⟩ := h.sees.at_ i x hx; exact ⟨v, h1, h2, h3⟩⟩
theorem OwnsX.base {e : TypeId} {w : World} {base base' : Nat} {v : Value} {vs : List (Int × Value)} {xs : List (St ByteArray)} (h : OwnsX e w base v vs xs) (hb : base' ≤ base) : OwnsX e w base' v vs xs := by
  refine ⟨⟨h.row.1, ?_⟩, h.sees.len, fun i x hx => ?_⟩
  · rcases h.row.2 with h | ⟨g, cap, cur, h1, h2, h3⟩
    · exact .inl h
    · exact .inr ⟨g, cap, cur, h1, by omega, h3⟩
  · obtain ⟨v, h1, h2, h3⟩ := h.sees.at_ i x hx
    exact ⟨v, h1, h2.base hb, h3⟩
theorem OwnsX.form {e : TypeId} {w : World} {base : Nat} {v : Value} {vs : List (Int × Value)} {xs : List (St ByteArray)} (h : OwnsX e w base v vs xs) :
    ∃ A c, v = .slice A xs.length c ∧ xs.length ≤ c ∧ c ≤ maxLen ∧ StaRow w A xs ∧ ∀ ad, A = some ad → base ≤ ad.block ∧ ad.block < w.heap.size := by
  have hcells := fun g => World.ownsRow.cells h.row (g := g)
  rcases h.row.2 with ⟨rfl, hl⟩ | ⟨g, cap, cur, rfl, hb, hg, hn, hm, _, _⟩
  · have hl2 : xs.length = 0 := by rw [← h.sees.len]; exact hl
    exact ⟨none, 0, by rw [hl2], by omega, by simp [maxLen], fun hp => absurd hp (by omega), fun ad h => by cases h⟩
  · have hlt : g < w.heap.size := (Array.getElem?_eq_some_iff.1 hg).1
    refine ⟨some ⟨g, 0, none⟩, cap, by rw [h.sees.len], by rw [← h.sees.len]; exact hn, hm, fun hp => ⟨g, 0, rfl, hlt, fun i x hx => ?_⟩, fun ad h => by cases h; exact ⟨hb, hlt⟩⟩
    obtain ⟨v, h1, h2, _⟩ := h.sees.at_ i x hx
    obtain ⟨g1, g2⟩ := cellsX_get vs i _ h1
    obtain ⟨Ai, ci, rfl, h3, h4, h5, _⟩ := h2.form
    have e1 := hcells g rfl _ _ g1
    have e2 := hcells g rfl _ _ g2
    have ea : ∀ j, (⟨g, 0, none⟩ : Addr).add j = ⟨g, 0 + j, none⟩ := fun j => by unfold Addr.add; split <;> simp_all
    rw [ea] at e1 e2
    rw [← Nat.add_assoc] at e2
    exact ⟨Ai, ci, e1, e2, h3, h4, h5⟩
/-- Kept where neither the row nor any slice of texts is written. -/
theorem OwnsX.kept {e : TypeId} {w w' : World} {base : Nat} {v : Value} {vs : List (Int × Value)} {xs : List (St ByteArray)} (h : OwnsX e w base v vs xs) {row : Option Nat} (hg : w.grownBy w' row) (hne : v.ownBlock = none ∨ v.ownBlock ≠ row) (hne2 : ∀ u ∈ vs, u.2.ownBlock = none ∨ u.2.ownBlock ≠ row) : OwnsX e w' base v vs xs :=
  ⟨World.ownsRow.kept h.row hg hne, h.sees.len, fun i x hx => by
    obtain ⟨u, h1, h2, h3⟩ := h.sees.at_ i x hx
    exact ⟨u, h1, h2.kept hg (hne2 _ (List.mem_of_getElem? h1)), h3⟩⟩
/-- Behind a block of another's all stays. -/
theorem OwnsX.other {e : TypeId} {w w' : World} {base : Nat} {v : Value} {vs : List (Int × Value)} {xs : List (St ByteArray)} (h : OwnsX e w base v vs xs) {g : Nat} (hg : w.grownBy w' (some g)) (hlt : g < base) : OwnsX e w' base v vs xs := by
  have key : ∀ k : Option Nat, (∀ j, k = some j → base ≤ j) → k = none ∨ k ≠ some g := fun k hk => by
    cases k with
    | none => exact .inl rfl
    | some j => right; intro e; have := hk j rfl; have := Option.some.inj e; omega
  have hsome : ∀ (i : Nat) (u : Int × Value), vs[i]? = some u → u.2.ownBlock = none ∨ u.2.ownBlock ≠ some g := fun i u hu => by
    have hil : i < xs.length := by rw [← h.sees.len]; exact (List.getElem?_eq_some_iff.1 hu).1
    obtain ⟨v2, h1, h2, _⟩ := h.sees.at_ i xs[i] (List.getElem?_eq_getElem hil)
    rw [hu] at h1
    cases h1
    exact key _ fun j hj => (World.ownsRow.lt h2 j hj).1
  refine h.kept hg (key _ fun j hj => (World.ownsRow.lt h.row j hj).1) fun u hu => ?_
  obtain ⟨i, hi⟩ := List.mem_iff_getElem?.1 hu
  exact hsome i u hi
end Go.Proofs.Ytmdogidflaplkaa
