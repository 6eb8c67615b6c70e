/- A skip list in pure terms: nodes, levels, what stands last on a level, what is linked to what. -/
import Derived.Test.YtalecnfflcjkmaaDoorA1
namespace Go.Proofs.YtalecnfflcjkmaaDoor
open Go.RowKit
set_option maxRecDepth 100000

/-- A node: its block, its key, its value, its slot, its height. -/
structure Nd where
  p : Nat
  k : Int × Int
  v : Int
  s : Int
  h : Nat
abbrev PN (p : Nat) : Value := .pointer (some ⟨p, 0, none⟩)
abbrev nilP : Value := .pointer none

/-- The first one on a level. -/
def fstP (lev : Nat) : List Nd → Value
  | [] => nilP
  | n :: r => if lev < n.h then PN n.p else fstP lev r
/-- The last one on a level, or what stands ahead. -/
def lstP (q lev : Nat) : List Nd → Nat
  | [] => q
  | n :: r => lstP (if lev < n.h then n.p else q) lev r
theorem lstP_append (q lev : Nat) (A B : List Nd) : lstP q lev (A ++ B) = lstP (lstP q lev A) lev B := by
  induction A generalizing q with
  | nil => rfl
  | cons n r ih => exact ih _
theorem lstP_low {q lev : Nat} {A : List Nd} (h : ∀ n ∈ A, n.h ≤ lev) : lstP q lev A = q := by
  induction A with
  | nil => rfl
  | cons n r ih => rw [lstP, if_neg (by have := h n List.mem_cons_self; omega)]; exact ih fun m hm => h m (List.mem_cons_of_mem _ hm)
theorem lstP_mem (q lev : Nat) (A : List Nd) : lstP q lev A = q ∨ ∃ n ∈ A, n.p = lstP q lev A ∧ lev < n.h := by
  induction A generalizing q with
  | nil => exact .inl rfl
  | cons n r ih =>
    rw [lstP]
    rcases ih (if lev < n.h then n.p else q) with e | ⟨m, hm, e⟩
    · rw [e]
      by_cases c : lev < n.h
      · rw [if_pos c]; exact .inr ⟨n, List.mem_cons_self, rfl, c⟩
      · rw [if_neg c]; exact .inl rfl
    · exact .inr ⟨m, List.mem_cons_of_mem _ hm, e⟩

/-- From q on a level's nodes are linked one to the other; a node that is too low has no way onward there. -/
def Lk (N : Nat → Nat → Value) (lev : Nat) : Nat → List Nd → Prop
  | q, [] => N q lev = nilP
  | q, n :: r => if lev < n.h then N q lev = PN n.p ∧ Lk N lev n.p r else N n.p lev = nilP ∧ Lk N lev q r
theorem Lk.first {N : Nat → Nat → Value} {lev q : Nat} {B : List Nd} (h : Lk N lev q B) : N q lev = fstP lev B := by
  induction B with
  | nil => exact h
  | cons n r ih =>
    rw [Lk] at h
    by_cases c : lev < n.h
    · rw [if_pos c] at h; rw [fstP, if_pos c]; exact h.1
    · rw [if_neg c] at h; rw [fstP, if_neg c]; exact ih h.2
theorem Lk.rest {N : Nat → Nat → Value} {lev q : Nat} {A B : List Nd} (h : Lk N lev q (A ++ B)) : Lk N lev (lstP q lev A) B := by
  induction A generalizing q with
  | nil => exact h
  | cons n r ih =>
    rw [List.cons_append, Lk] at h
    rw [lstP]
    by_cases c : lev < n.h
    · rw [if_pos c] at h ⊢; exact ih h.2
    · rw [if_neg c] at h ⊢; exact ih h.2
theorem Lk.congr {N N' : Nat → Nat → Value} {lev q q' : Nat} {B : List Nd} (h : Lk N lev q B) (hq : N' q' lev = N q lev) (hB : ∀ n ∈ B, N' n.p lev = N n.p lev) : Lk N' lev q' B := by
  induction B generalizing q q' with
  | nil => exact hq.trans h
  | cons n r ih =>
    rw [Lk] at h ⊢
    by_cases c : lev < n.h
    · rw [if_pos c] at h ⊢
      exact ⟨hq.trans h.1, ih h.2 (hB n List.mem_cons_self) fun m hm => hB m (List.mem_cons_of_mem _ hm)⟩
    · rw [if_neg c] at h ⊢
      exact ⟨(hB n List.mem_cons_self).trans h.1, ih h.2 hq fun m hm => hB m (List.mem_cons_of_mem _ hm)⟩
/-- The blocks of a list, with what stands ahead. -/
def Apart (q : Nat) (L : List Nd) : Prop := (q :: L.map (·.p)).Nodup
theorem Apart.tail {q : Nat} {n : Nd} {L : List Nd} (h : Apart q (n :: L)) : Apart n.p L := (List.nodup_cons.1 h).2
theorem Apart.skip {q : Nat} {n : Nd} {L : List Nd} (h : Apart q (n :: L)) : Apart q L := by
  unfold Apart at *
  simp only [List.map_cons, List.nodup_cons, List.mem_cons, not_or] at *
  exact ⟨h.1.2, h.2.2⟩
theorem Apart.ne {q : Nat} {L : List Nd} (h : Apart q L) {n : Nd} (hn : n ∈ L) : n.p ≠ q := fun e => (List.nodup_cons.1 h).1 (e ▸ List.mem_map.2 ⟨n, hn, rfl⟩)
theorem Apart.left {q : Nat} {A B : List Nd} (h : Apart q (A ++ B)) : Apart q A := by
  unfold Apart at *
  rw [List.map_append, ← List.cons_append] at h
  exact (List.nodup_append.1 h).1
theorem Apart.lst_ne {q lev : Nat} {A B : List Nd} (h : Apart q (A ++ B)) {n : Nd} (hn : n ∈ B) : n.p ≠ lstP q lev A := fun e => by
  unfold Apart at h
  rw [List.map_append, ← List.cons_append] at h
  have h3 := (List.nodup_append.1 h).2.2
  rcases lstP_mem q lev A with e1 | ⟨m, hm, e1, _⟩
  · exact h3 _ (List.mem_cons_self) _ (List.mem_map.2 ⟨n, hn, rfl⟩) (e.trans e1).symm
  · exact h3 m.p (List.mem_cons_of_mem _ (List.mem_map.2 ⟨m, hm, rfl⟩)) _ (List.mem_map.2 ⟨n, hn, rfl⟩) (e1.trans e.symm)
theorem Apart.rest {q lev : Nat} {A B : List Nd} (h : Apart q (A ++ B)) : Apart (lstP q lev A) B := by
  refine List.nodup_cons.2 ⟨fun c => ?_, ?_⟩
  · obtain ⟨n, hn, e⟩ := List.mem_map.1 c
    exact h.lst_ne hn e
  · unfold Apart at h
    rw [List.map_append, ← List.cons_append] at h
    exact (List.nodup_append.1 h).2.1

/-- A node more. -/
theorem Lk.insert {N N' : Nat → Nat → Value} {lev q : Nat} {A B : List Nd} {x : Nd} (h : Lk N lev q (A ++ B)) (ha : Apart q (A ++ B)) (hxq : x.p ≠ q) (hx : ∀ n ∈ A ++ B, n.p ≠ x.p)
    (h1 : lev < x.h → N' (lstP q lev A) lev = PN x.p ∧ N' x.p lev = fstP lev B) (h2 : x.h ≤ lev → N' x.p lev = nilP) (h3 : ∀ y, y ≠ x.p → (lev < x.h → y ≠ lstP q lev A) → N' y lev = N y lev) : Lk N' lev q (A ++ x :: B) := by
  induction A generalizing q with
  | nil =>
    rw [List.nil_append] at h ⊢
    rw [Lk]
    by_cases c : lev < x.h
    · rw [if_pos c]
      refine ⟨(h1 c).1, h.congr ((h1 c).2.trans h.first.symm) fun n hn => h3 _ (hx n hn) fun _ => ha.ne hn⟩
    · rw [if_neg c]
      exact ⟨h2 (by omega), h.congr (h3 _ hxq.symm fun c' => absurd c' c) fun n hn => h3 _ (hx n hn) fun c' => absurd c' c⟩
  | cons a r ih =>
    rw [List.cons_append] at h ⊢ ha
    rw [Lk] at h ⊢
    have hxa : a.p ≠ x.p := hx a List.mem_cons_self
    have hx' : ∀ n ∈ r ++ B, n.p ≠ x.p := fun n hn => hx n (List.mem_cons_of_mem _ hn)
    by_cases c : lev < a.h
    · rw [if_pos c] at h ⊢
      rw [lstP, if_pos c] at h1 h3
      have hne : q ≠ lstP a.p lev r := fun e => by
        rcases lstP_mem a.p lev r with e1 | ⟨m, hm, e1, _⟩
        · exact ha.ne List.mem_cons_self (e.trans e1).symm
        · exact ha.ne (List.mem_cons_of_mem _ (List.mem_append_left _ hm)) (e1.trans e.symm)
      exact ⟨(h3 _ hxq.symm fun _ => hne).trans h.1, ih h.2 ha.tail hxa.symm hx' h1 h3⟩
    · rw [if_neg c] at h ⊢
      rw [lstP, if_neg c] at h1 h3
      have hne : a.p ≠ lstP q lev r := fun e => by
        rcases lstP_mem q lev r with e1 | ⟨m, hm, e1, _⟩
        · exact ha.ne List.mem_cons_self (e.trans e1)
        · exact ha.tail.ne (List.mem_append_left _ hm) (e1.trans e.symm)
      exact ⟨(h3 _ hxa fun _ => hne).trans h.1, ih h.2 ha.skip hxq hx' h1 h3⟩
/-- A node less. -/
theorem Lk.remove {N N' : Nat → Nat → Value} {lev q : Nat} {A B : List Nd} {x : Nd} (h : Lk N lev q (A ++ x :: B)) (ha : Apart q (A ++ x :: B))
    (h1 : lev < x.h → N' (lstP q lev A) lev = N x.p lev) (h3 : ∀ y, (lev < x.h → y ≠ lstP q lev A) → N' y lev = N y lev) : Lk N' lev q (A ++ B) := by
  induction A generalizing q with
  | nil =>
    rw [List.nil_append] at h ha ⊢
    rw [Lk] at h
    by_cases c : lev < x.h
    · rw [if_pos c] at h
      exact h.2.congr (h1 c) fun n hn => h3 _ fun _ => ha.ne (List.mem_cons_of_mem _ hn)
    · rw [if_neg c] at h
      exact h.2.congr (h3 _ fun c' => absurd c' c) fun n hn => h3 _ fun c' => absurd c' c
  | cons a r ih =>
    rw [List.cons_append] at h ⊢ ha
    rw [Lk] at h ⊢
    by_cases c : lev < a.h
    · rw [if_pos c] at h ⊢
      rw [lstP, if_pos c] at h1 h3
      have hne : q ≠ lstP a.p lev r := fun e => by
        rcases lstP_mem a.p lev r with e1 | ⟨m, hm, e1, _⟩
        · exact ha.ne List.mem_cons_self (e.trans e1).symm
        · exact ha.ne (List.mem_cons_of_mem _ (List.mem_append_left _ hm)) (e1.trans e.symm)
      exact ⟨(h3 _ fun _ => hne).trans h.1, ih h.2 ha.tail h1 h3⟩
    · rw [if_neg c] at h ⊢
      rw [lstP, if_neg c] at h1 h3
      have hne : a.p ≠ lstP q lev r := fun e => by
        rcases lstP_mem q lev r with e1 | ⟨m, hm, e1, _⟩
        · exact ha.ne List.mem_cons_self (e.trans e1)
        · exact ha.tail.ne (List.mem_append_left _ hm) (e1.trans e.symm)
      exact ⟨(h3 _ fun _ => hne).trans h.1, ih h.2 ha.skip h1 h3⟩

/-- Where the last one on a level stands, from 1 on; 0: there is none. -/
def posL (lev : Nat) : List Nd → Nat
  | [] => 0
  | n :: r => if posL lev r ≠ 0 then posL lev r + 1 else if lev < n.h then 1 else 0
theorem posL_le (lev : Nat) (T : List Nd) : posL lev T ≤ T.length := by
  induction T with
  | nil => exact Nat.le_refl _
  | cons n r ih => rw [posL, List.length_cons]; (repeat' split) <;> omega
/-- Behind the last one all are low. -/
theorem posL_low (lev : Nat) (T : List Nd) : ∀ n ∈ T.drop (posL lev T), n.h ≤ lev := by
  induction T with
  | nil => intro n hn; cases hn
  | cons a r ih =>
    rw [posL]
    by_cases c : posL lev r ≠ 0
    · rw [if_pos c, List.drop_succ_cons]; exact ih
    · rw [if_neg c]
      have hr : posL lev r = 0 := by omega
      rw [hr, List.drop_zero] at ih
      by_cases d : lev < a.h
      · rw [if_pos d]; exact ih
      · rw [if_neg d, List.drop_zero]
        intro n hn
        rcases List.mem_cons.1 hn with rfl | hn
        · omega
        · exact ih n hn
/-- The last one on a level is the last one of the lower levels up to there. -/
theorem posL_last (q lev lev' : Nat) (T : List Nd) (h : lev' ≤ lev) : lstP q lev' (T.take (posL lev T)) = lstP q lev T := by
  induction T generalizing q with
  | nil => rfl
  | cons a r ih =>
    rw [posL]
    by_cases c : posL lev r ≠ 0
    · rw [if_pos c, List.take_succ_cons, lstP, lstP]
      -- the last one is in r
      have key : ∀ q1 q2, lstP q1 lev r = lstP q2 lev r := by
        intro q1 q2
        clear ih
        induction r generalizing q1 q2 with
        | nil => exact absurd rfl c
        | cons b s ih2 =>
          rw [lstP, lstP]
          by_cases e : lev < b.h
          · rw [if_pos e, if_pos e]
          · rw [if_neg e, if_neg e]
            rw [posL] at c
            by_cases f : posL lev s ≠ 0
            · exact ih2 f q1 q2
            · rw [if_neg f, if_neg e] at c; exact absurd rfl c
      rw [ih]
      exact key _ _
    · rw [if_neg c]
      have hr : posL lev r = 0 := by omega
      have hl := posL_low lev r
      rw [hr, List.drop_zero] at hl
      by_cases d : lev < a.h
      · rw [if_pos d]
        simp only [List.take_succ_cons, List.take_zero, lstP, if_pos d, if_pos (show lev' < a.h by omega)]
        rw [lstP_low hl]
      · rw [if_neg d, List.take_zero, lstP, lstP, if_neg d, lstP_low hl]

/-! ### keys in order -/
def Rising (L : List Nd) : Prop := L.Pairwise fun a b => ltK a.k b.k
/-- Those below a key. -/
def lo (k : Int × Int) (L : List Nd) : List Nd := L.filter fun n => decide (ltK n.k k)
def hi (k : Int × Int) (L : List Nd) : List Nd := L.filter fun n => !decide (ltK n.k k)
theorem Rising.split {L : List Nd} (h : Rising L) (k : Int × Int) : L = lo k L ++ hi k L := by
  induction L with
  | nil => rfl
  | cons a r ih =>
    obtain ⟨h1, h2⟩ := List.pairwise_cons.1 h
    by_cases c : ltK a.k k
    · have e1 : lo k (a :: r) = a :: lo k r := by simp [lo, c]
      have e2 : hi k (a :: r) = hi k r := by simp [hi, c]
      rw [e1, e2, List.cons_append, ← ih h2]
    · have hall : ∀ n ∈ r, ¬ ltK n.k k := fun n hn d => c (ltK_trans (h1 n hn) d)
      have e1 : lo k (a :: r) = [] := by
        refine List.filter_eq_nil_iff.2 fun n hn => ?_
        rcases List.mem_cons.1 hn with rfl | hn
        · simpa using c
        · simpa using hall n hn
      have e2 : hi k (a :: r) = a :: r := by
        refine List.filter_eq_self.2 fun n hn => ?_
        rcases List.mem_cons.1 hn with rfl | hn
        · simpa using c
        · simpa using hall n hn
      rw [e1, e2]; rfl
theorem lo_below {k : Int × Int} {L : List Nd} {n : Nd} (h : n ∈ lo k L) : n ∈ L ∧ ltK n.k k := by
  have := List.mem_filter.1 h; exact ⟨this.1, by simpa using this.2⟩
theorem hi_above {k : Int × Int} {L : List Nd} {n : Nd} (h : n ∈ hi k L) : n ∈ L ∧ ¬ ltK n.k k := by
  have := List.mem_filter.1 h; exact ⟨this.1, by simpa using this.2⟩
/-- All of them are below a key that is above the last. -/
theorem Rising.all_lo {L : List Nd} (h : Rising L) {k : Int × Int} {A : List Nd} {n : Nd} (e : L = A ++ [n]) (hn : ltK n.k k) : lo k L = L ∧ hi k L = [] := by
  subst e
  have hall : ∀ m ∈ A ++ [n], ltK m.k k := fun m hm => by
    rcases List.mem_append.1 hm with hm | hm
    · exact ltK_trans ((List.pairwise_append.1 h).2.2 m hm n (by simp)) hn
    · rw [List.mem_singleton.1 hm]; exact hn
  exact ⟨List.filter_eq_self.2 fun m hm => by simpa using hall m hm, List.filter_eq_nil_iff.2 fun m hm => by simpa using hall m hm⟩
end Go.Proofs.YtalecnfflcjkmaaDoor
