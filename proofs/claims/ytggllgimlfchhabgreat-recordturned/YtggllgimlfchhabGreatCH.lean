/- Record: which messages may be, the program's and the document's answer; CheckMsg. -/
import Derived.Test.YtggllgimlfchhabGreatCG
namespace Go.Proofs.YtggllgimlfchhabGreat
open Go.RowKit
set_option maxRecDepth 100000

theorem okM_plain {m : MsgD} (h : OkM m) : OkM (plainM m) := by
  obtain ⟨h1, h2, h3⟩ := h
  unfold plainM
  repeat' split
  all_goals first | exact ⟨h1, okTs_nil, fun x hx => by cases hx⟩ | exact ⟨(fun x hx => by cases hx), h2, fun x hx => by cases hx⟩ | exact ⟨(fun x hx => by cases hx), okTs_nil, h3⟩ | exact ⟨(fun x hx => by cases hx), okTs_nil, fun x hx => by cases hx⟩
theorem cnt0 : isCnt 0 = true := by decide
theorem mays_same (m : MsgD) : refMay m = mayMsg m := by
  obtain ⟨k, f, t, a, b, c, d, y, l, e, p⟩ := m
  by_cases h1 : k = 1
  case pos =>
    subst h1
    rw [Bool.eq_iff_iff]
    simp only [refMay, mayMsg, tailM, plainM, fieldsL, runF, fMay, wout, MsgD.mk.injEq, Bool.and_eq_true, decide_eq_true_eq, if_true, if_false, List.isEmpty_cons, Bool.not_false, true_and, and_true, Int.reduceEq, Int.reduceLE, and_self]
    constructor
    · intro h
      simp_all
    · intro h
      simp_all [cnt0]
  by_cases h2 : k = 2
  case pos =>
    subst h2
    rw [Bool.eq_iff_iff]
    simp only [refMay, mayMsg, tailM, plainM, fieldsL, runF, fMay, wout, MsgD.mk.injEq, Bool.and_eq_true, decide_eq_true_eq, if_true, if_false, List.isEmpty_cons, Bool.not_false, true_and, and_true, Int.reduceEq, Int.reduceLE, and_self]
    constructor
    · intro h
      simp_all
    · intro h
      simp_all [cnt0]
  by_cases h3 : k = 3
  case pos =>
    subst h3
    rw [Bool.eq_iff_iff]
    simp only [refMay, mayMsg, tailM, plainM, fieldsL, runF, fMay, wout, MsgD.mk.injEq, Bool.and_eq_true, decide_eq_true_eq, if_true, if_false, List.isEmpty_cons, Bool.not_false, true_and, Int.reduceEq, Int.reduceLE, and_self]
    constructor
    · intro h
      simp_all
    · intro h
      simp_all
  by_cases h4 : k = 4
  case pos =>
    subst h4
    rw [Bool.eq_iff_iff]
    simp only [refMay, mayMsg, tailM, plainM, fieldsL, runF, fMay, wout, MsgD.mk.injEq, Bool.and_eq_true, decide_eq_true_eq, if_true, if_false, List.isEmpty_cons, Bool.not_false, true_and, and_true, Int.reduceEq, Int.reduceLE, and_self]
    constructor
    · intro h
      simp_all
    · intro h
      simp_all [cnt0]
  by_cases h5 : k = 5
  case pos =>
    subst h5
    rw [Bool.eq_iff_iff]
    simp only [refMay, mayMsg, tailM, plainM, fieldsL, runF, fMay, wout, MsgD.mk.injEq, Bool.and_eq_true, decide_eq_true_eq, if_true, if_false, List.isEmpty_cons, Bool.not_false, true_and, and_true, Int.reduceEq, Int.reduceLE, and_self]
    constructor
    · intro h
      simp_all
    · intro h
      simp_all [cnt0]
  by_cases h6 : k = 6
  case pos =>
    subst h6
    rw [Bool.eq_iff_iff]
    simp only [refMay, mayMsg, tailM, plainM, fieldsL, runF, fMay, wout, MsgD.mk.injEq, Bool.and_eq_true, decide_eq_true_eq, if_true, if_false, List.isEmpty_cons, Bool.not_false, true_and, Int.reduceEq, Int.reduceLE, and_self]
    constructor
    · intro h
      simp_all
    · intro h
      simp_all [cnt0]
  case neg =>
    have e1 : refMay ⟨k, f, t, a, b, c, d, y, l, e, p⟩ = false := by
      unfold refMay
      have : decide (1 ≤ k ∧ k ≤ 6) = false := decide_eq_false (by omega)
      simp only [this, Bool.false_and]
    have e2 : fieldsL k = [] := by simp only [fieldsL, h1, h2, h3, h4, h5, h6, if_false]
    rw [e1]
    simp only [mayMsg, e2, List.isEmpty_nil, Bool.not_true, Bool.false_and]


end Go.Proofs.YtggllgimlfchhabGreat
