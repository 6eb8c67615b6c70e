/- Several texts as one. -/
import Derived.Test.YtdcmkapfcmibeaaDoorA1
import Derived.WalkKit
import Derived.Laws.AppendOwnNone
import Derived.Laws.IdiomStrings

/- A skip list in pure terms: nodes, levels, what stands last on a level, what is linked to what. -/
namespace Go.Proofs.YtdcmkapfcmibeaaDoor
open Go.RowKit
set_option maxRecDepth 100000

/-- A node: its block, its key, its value, its slot, its height. -/
structure Nd where
  p : Nat
  k : Int × Int
  v : Int
  s : Int
  h : Nat
abbrev PN (p : Nat) : Value := .pointer (some ⟨p, 0, none⟩)
abbrev nilP : Value := .pointer none

/-- The first one on a level. -/
def fstP (lev : Nat) : List Nd → Value
  | [] => nilP
  | n :: r => if lev < n.h then PN n.p else fstP lev r
/-- The last one on a level, or what stands ahead. -/
def lstP (q lev : Nat) : List Nd → Nat
  | [] => q
  | n :: r => lstP (if lev < n.h then n.p else q) lev r
theorem lstP_append (q lev : Nat) (A B : List Nd) : lstP q lev (A ++ B) = lstP (lstP q lev A) lev B := by
  induction A generalizing q with
  | nil => rfl
  | cons n r ih => exact ih _
theorem lstP_low {q lev : Nat} {A : List Nd} (h : ∀ n ∈ A, n.h ≤ lev) : lstP q lev A = q := by
  induction A with
  | nil => rfl
  | cons n r ih => rw [lstP, if_neg (by have := h n List.mem_cons_self; omega)]; exact ih fun m hm => h m (List.mem_cons_of_mem _ hm)
theorem lstP_mem (q lev : Nat) (A : List Nd) : lstP q lev A = q ∨ ∃ n ∈ A, n.p = lstP q lev A ∧ lev < n.h := by
  induction A generalizing q with
  | nil => exact .inl rfl
  | cons n r ih =>
    rw [lstP]
    rcases ih (if lev < n.h then n.p else q) with e | ⟨m, hm, e⟩
    · rw [e]
      by_cases c : lev < n.h
      · rw [if_pos c]; exact .inr ⟨n, List.mem_cons_self, rfl, c⟩
      · rw [if_neg c]; exact .inl rfl
    · exact .inr ⟨m, List.mem_cons_of_mem _ hm, e⟩

/-- From q on a level's nodes are linked one to the other; a node that is too low has no way onward there. -/
def Lk (N : Nat → Nat → Value) (lev : Nat) : Nat → List Nd → Prop
  | q, [] => N q lev = nilP
  | q, n :: r => if lev < n.h then N q lev = PN n.p ∧ Lk N lev n.p r else N n.p lev = nilP ∧ Lk N lev q r
theorem Lk.first {N : Nat → Nat → Value} {lev q : Nat} {B : List Nd} (h : Lk N lev q B) : N q lev = fstP lev B := by
  induction B with
  | nil => exact h
  | cons n r ih =>
    rw [Lk] at h
    by_cases c : lev < n.h
    · rw [if_pos c] at h; rw [fstP, if_pos c]; exact h.1
    · rw [if_neg c] at h; rw [fstP, if_neg c]; exact ih h.2
theorem Lk.rest {N : Nat → Nat → Value} {lev q : Nat} {A B : List Nd} (h : Lk N lev q (A ++ B)) : Lk N lev (lstP q lev A) B := by
  induction A generalizing q with
  | nil => exact h
  | cons n r ih =>
    rw [List.cons_append, Lk] at h
    rw [lstP]
    by_cases c : lev < n.h
    · rw [if_pos c] at h ⊢; exact ih h.2
    · rw [if_neg c] at h ⊢; exact ih h.2
theorem Lk.congr {N N' : Nat → Nat → Value} {lev q q' : Nat} {B : List Nd} (h : Lk N lev q B) (hq : N' q' lev = N q lev) (hB : ∀ n ∈ B, N' n.p lev = N n.p lev) : Lk N' lev q' B := by
  induction B generalizing q q' with
  | nil => exact hq.trans h
  | cons n r ih =>
    rw [Lk] at h ⊢
    by_cases c : lev < n.h
    · rw [if_pos c] at h ⊢
      exact ⟨hq.trans h.1, ih h.2 (hB n List.mem_cons_self) fun m hm => hB m (List.mem_cons_of_mem _ hm)⟩
    · rw [if_neg c] at h ⊢
      exact ⟨(hB n List.mem_cons_self).trans h.1, ih h.2 hq fun m hm => hB m (List.mem_cons_of_mem _ hm)⟩
/-- The blocks of a list, with what stands ahead. -/
def Apart (q : Nat) (L : List Nd) : Prop := (q :: L.map (·.p)).Nodup
theorem Apart.tail {q : Nat} {n : Nd} {L : List Nd} (h : Apart q (n :: L)) : Apart n.p L := (List.nodup_cons.1 h).2
theorem Apart.skip {q : Nat} {n : Nd} {L : List Nd} (h : Apart q (n :: L)) : Apart q L := by
  unfold Apart at *
  simp only [List.map_cons, List.nodup_cons, List.mem_cons, not_or] at *
  exact ⟨h.1.2, h.2.2⟩
theorem Apart.ne {q : Nat} {L : List Nd} (h : Apart q L) {n : Nd} (hn : n ∈ L) : n.p ≠ q := fun e => (List.nodup_cons.1 h).1 (e ▸ List.mem_map.2 ⟨n, hn, rfl⟩)
theorem Apart.left {q : Nat} {A B : List Nd} (h : Apart q (A ++ B)) : Apart q A := by
  unfold Apart at *
  rw [List.map_append, ← List.cons_append] at h
  exact (List.nodup_append.1 h).1
theorem Apart.lst_ne {q lev : Nat} {A B : List Nd} (h : Apart q (A ++ B)) {n : Nd} (hn : n ∈ B) : n.p ≠ lstP q lev A := fun e => by
  unfold Apart at h
  rw [List.map_append, ← List.cons_append] at h
  have h3 := (List.nodup_append.1 h).2.2
  rcases lstP_mem q lev A with e1 | ⟨m, hm, e1, _⟩
  · exact h3 _ (List.mem_cons_self) _ (List.mem_map.2 ⟨n, hn, rfl⟩) (e.trans e1).symm
  · exact h3 m.p (List.mem_cons_of_mem _ (List.mem_map.2 ⟨m, hm, rfl⟩)) _ (List.mem_map.2 ⟨n, hn, rfl⟩) (e1.trans e.symm)
theorem Apart.rest {q lev : Nat} {A B : List Nd} (h : Apart q (A ++ B)) : Apart (lstP q lev A) B := by
  refine List.nodup_cons.2 ⟨fun c => ?_, ?_⟩
  · obtain ⟨n, hn, e⟩ := List.mem_map.1 c
    exact h.lst_ne hn e
  · unfold Apart at h
    rw [List.map_append, ← List.cons_append] at h
    exact (List.nodup_append.1 h).2.1

/-- A node more. -/
theorem Lk.insert {N N' : Nat → Nat → Value} {lev q : Nat} {A B : List Nd} {x : Nd} (h : Lk N lev q (A ++ B)) (ha : Apart q (A ++ B)) (hxq : x.p ≠ q) (hx : ∀ n ∈ A ++ B, n.p ≠ x.p)
    (h1 : lev < x.h → N' (lstP q lev A) lev = PN x.p ∧ N' x.p lev = fstP lev B) (h2 : x.h ≤ lev → N' x.p lev = nilP) (h3 : ∀ y, y ≠ x.p → (lev < x.h → y ≠ lstP q lev A) → N' y lev = N y lev) : Lk N' lev q (A ++ x :: B) := by
  induction A generalizing q with
  | nil =>
    rw [List.nil_append] at h ⊢
    rw [Lk]
    by_cases c : lev < x.h
    · rw [if_pos c]
      refine ⟨(h1 c).1, h.congr ((h1 c).2.trans h.first.symm) fun n hn => h3 _ (hx n hn) fun _ => ha.ne hn⟩
    · rw [if_neg c]
      exact ⟨h2 (by omega), h.congr (h3 _ hxq.symm fun c' => absurd c' c) fun n hn => h3 _ (hx n hn) fun c' => absurd c' c⟩
  | cons a r ih =>
    rw [List.cons_append] at h ⊢ ha
    rw [Lk] at h ⊢
    have hxa : a.p ≠ x.p := hx a List.mem_cons_self
    have hx' : ∀ n ∈ r ++ B, n.p ≠ x.p := fun n hn => hx n (List.mem_cons_of_mem _ hn)
    by_cases c : lev < a.h
    · rw [if_pos c] at h ⊢
      rw [lstP, if_pos c] at h1 h3
      have hne : q ≠ lstP a.p lev r := fun e => by
        rcases lstP_mem a.p lev r with e1 | ⟨m, hm, e1, _⟩
        · exact ha.ne List.mem_cons_self (e.trans e1).symm
        · exact ha.ne (List.mem_cons_of_mem _ (List.mem_append_left _ hm)) (e1.trans e.symm)
      exact ⟨(h3 _ hxq.symm fun _ => hne).trans h.1, ih h.2 ha.tail hxa.symm hx' h1 h3⟩
    · rw [if_neg c] at h ⊢
      rw [lstP, if_neg c] at h1 h3
      have hne : a.p ≠ lstP q lev r := fun e => by
        rcases lstP_mem q lev r with e1 | ⟨m, hm, e1, _⟩
        · exact ha.ne List.mem_cons_self (e.trans e1)
        · exact ha.tail.ne (List.mem_append_left _ hm) (e1.trans e.symm)
      exact ⟨(h3 _ hxa fun _ => hne).trans h.1, ih h.2 ha.skip hxq hx' h1 h3⟩
/-- A node less. -/
theorem Lk.remove {N N' : Nat → Nat → Value} {lev q : Nat} {A B : List Nd} {x : Nd} (h : Lk N lev q (A ++ x :: B)) (ha : Apart q (A ++ x :: B))
    (h1 : lev < x.h → N' (lstP q lev A) lev = N x.p lev) (h3 : ∀ y, (lev < x.h → y ≠ lstP q lev A) → N' y lev = N y lev) : Lk N' lev q (A ++ B) := by
  induction A generalizing q with
  | nil =>
    rw [List.nil_append] at h ha ⊢
    rw [Lk] at h
    by_cases c : lev < x.h
    · rw [if_pos c] at h
      exact h.2.congr (h1 c) fun n hn => h3 _ fun _ => ha.ne (List.mem_cons_of_mem _ hn)
    · rw [if_neg c] at h
      exact h.2.congr (h3 _ fun c' => absurd c' c) fun n hn => h3 _ fun c' => absurd c' c
  | cons a r ih =>
    rw [List.cons_append] at h ⊢ ha
    rw [Lk] at h ⊢
    by_cases c : lev < a.h
    · rw [if_pos c] at h ⊢
      rw [lstP, if_pos c] at h1 h3
      have hne : q ≠ lstP a.p lev r := fun e => by
        rcases lstP_mem a.p lev r with e1 | ⟨m, hm, e1, _⟩
        · exact ha.ne List.mem_cons_self (e.trans e1).symm
        · exact ha.ne (List.mem_cons_of_mem _ (List.mem_append_left _ hm)) (e1.trans e.symm)
      exact ⟨(h3 _ fun _ => hne).trans h.1, ih h.2 ha.tail h1 h3⟩
    · rw [if_neg c] at h ⊢
      rw [lstP, if_neg c] at h1 h3
      have hne : a.p ≠ lstP q lev r := fun e => by
        rcases lstP_mem q lev r with e1 | ⟨m, hm, e1, _⟩
        · exact ha.ne List.mem_cons_self (e.trans e1)
        · exact ha.tail.ne (List.mem_append_left _ hm) (e1.trans e.symm)
      exact ⟨(h3 _ fun _ => hne).trans h.1, ih h.2 ha.skip h1 h3⟩

/-- Where the last one on a level stands, from 1 on; 0: there is none. -/
def posL (lev : Nat) : List Nd → Nat
  | [] => 0
  | n :: r => if posL lev r ≠ 0 then posL lev r + 1 else if lev < n.h then 1 else 0
theorem posL_le (lev : Nat) (T : List Nd) : posL lev T ≤ T.length := by
  induction T with
  | nil => exact Nat.le_refl _
  | cons n r ih => rw [posL, List.length_cons]; (repeat' split) <;> omega
/-- Behind the last one all are low. -/
theorem posL_low (lev : Nat) (T : List Nd) : ∀ n ∈ T.drop (posL lev T), n.h ≤ lev := by
  induction T with
  | nil => intro n hn; cases hn
  | cons a r ih =>
    rw [posL]
    by_cases c : posL lev r ≠ 0
    · rw [if_pos c, List.drop_succ_cons]; exact ih
    · rw [if_neg c]
      have hr : posL lev r = 0 := by omega
      rw [hr, List.drop_zero] at ih
      by_cases d : lev < a.h
      · rw [if_pos d]; exact ih
      · rw [if_neg d, List.drop_zero]
        intro n hn
        rcases List.mem_cons.1 hn with rfl | hn
        · omega
        · exact ih n hn
/-- The last one on a level is the last one of the lower levels up to there. -/
theorem posL_last (q lev lev' : Nat) (T : List Nd) (h : lev' ≤ lev) : lstP q lev' (T.take (posL lev T)) = lstP q lev T := by
  induction T generalizing q with
  | nil => rfl
  | cons a r ih =>
    rw [posL]
    by_cases c : posL lev r ≠ 0
    · rw [if_pos c, List.take_succ_cons, lstP, lstP]
      -- the last one is in r
      have key : ∀ q1 q2, lstP q1 lev r = lstP q2 lev r := by
        intro q1 q2
        clear ih
        induction r generalizing q1 q2 with
        | nil => exact absurd rfl c
        | cons b s ih2 =>
          rw [lstP, lstP]
          by_cases e : lev < b.h
          · rw [if_pos e, if_pos e]
          · rw [if_neg e, if_neg e]
            rw [posL] at c
            by_cases f : posL lev s ≠ 0
            · exact ih2 f q1 q2
            · rw [if_neg f, if_neg e] at c; exact absurd rfl c
      rw [ih]
      exact key _ _
    · rw [if_neg c]
      have hr : posL lev r = 0 := by omega
      have hl := posL_low lev r
      rw [hr, List.drop_zero] at hl
      by_cases d : lev < a.h
      · rw [if_pos d]
        simp only [List.take_succ_cons, List.take_zero, lstP, if_pos d, if_pos (show lev' < a.h by omega)]
        rw [lstP_low hl]
      · rw [if_neg d, List.take_zero, lstP, lstP, if_neg d, lstP_low hl]

/-! ### keys in order -/
def Rising (L : List Nd) : Prop := L.Pairwise fun a b => ltK a.k b.k
/-- Those below a key. -/
def lo (k : Int × Int) (L : List Nd) : List Nd := L.filter fun n => decide (ltK n.k k)
def hi (k : Int × Int) (L : List Nd) : List Nd := L.filter fun n => !decide (ltK n.k k)
theorem Rising.split {L : List Nd} (h : Rising L) (k : Int × Int) : L = lo k L ++ hi k L := by
  induction L with
  | nil => rfl
  | cons a r ih =>
    obtain ⟨h1, h2⟩ := List.pairwise_cons.1 h
    by_cases c : ltK a.k k
    · have e1 : lo k (a :: r) = a :: lo k r := by simp [lo, c]
      have e2 : hi k (a :: r) = hi k r := by simp [hi, c]
      rw [e1, e2, List.cons_append, ← ih h2]
    · have hall : ∀ n ∈ r, ¬ ltK n.k k := fun n hn d => c (ltK_trans (h1 n hn) d)
      have e1 : lo k (a :: r) = [] := by
        refine List.filter_eq_nil_iff.2 fun n hn => ?_
        rcases List.mem_cons.1 hn with rfl | hn
        · simpa using c
        · simpa using hall n hn
      have e2 : hi k (a :: r) = a :: r := by
        refine List.filter_eq_self.2 fun n hn => ?_
        rcases List.mem_cons.1 hn with rfl | hn
        · simpa using c
        · simpa using hall n hn
      rw [e1, e2]; rfl
theorem lo_below {k : Int × Int} {L : List Nd} {n : Nd} (h : n ∈ lo k L) : n ∈ L ∧ ltK n.k k := by
  have := List.mem_filter.1 h; exact ⟨this.1, by simpa using this.2⟩
theorem hi_above {k : Int × Int} {L : List Nd} {n : Nd} (h : n ∈ hi k L) : n ∈ L ∧ ¬ ltK n.k k := by
  have := List.mem_filter.1 h; exact ⟨this.1, by simpa using this.2⟩
/-- All of them are below a key that is above the last. -/
theorem Rising.all_lo {L : List Nd} (h : Rising L) {k : Int × Int} {A : List Nd} {n : Nd} (e : L = A ++ [n]) (hn : ltK n.k k) : lo k L = L ∧ hi k L = [] := by
  subst e
  have hall : ∀ m ∈ A ++ [n], ltK m.k k := fun m hm => by
    rcases List.mem_append.1 hm with hm | hm
    · exact ltK_trans ((List.pairwise_append.1 h).2.2 m hm n (by simp)) hn
    · rw [List.mem_singleton.1 hm]; exact hn
  exact ⟨List.filter_eq_self.2 fun m hm => by simpa using hall m hm, List.filter_eq_nil_iff.2 fun m hm => by simpa using hall m hm⟩
end Go.Proofs.YtdcmkapfcmibeaaDoor

/- A skip list in memory: its own struct, its nodes, the head; what is kept beside it. -/
namespace Go.Proofs.YtdcmkapfcmibeaaDoor
open Go.RowKit
set_option maxRecDepth 100000

/-- All blocks below N but those of S are as they were. -/
structure Upd (S : Nat → Prop) (N : Nat) (w w' : World) : Prop where
  os : w'.os = w.os
  tape : w'.tape = w.tape
  output : w'.output = w.output
  size : w.heap.size ≤ w'.heap.size
  block : ∀ k, k < N → ¬ S k → w'.heap[k]? = w.heap[k]?

theorem Upd.refl (S : Nat → Prop) (N : Nat) (w : World) : Upd S N w w := ⟨rfl, rfl, rfl, Nat.le_refl _, fun _ _ _ => rfl⟩
theorem Upd.trans {S : Nat → Prop} {N : Nat} {a b c : World} (h : Upd S N a b) (k : Upd S N b c) : Upd S N a c :=
  ⟨k.os.trans h.os, k.tape.trans h.tape, k.output.trans h.output, Nat.le_trans h.size k.size, fun i hi hs => (k.block i hi hs).trans (h.block i hi hs)⟩
theorem Upd.mono {S S' : Nat → Prop} {N N' : Nat} {w w' : World} (h : Upd S N w w') (hN : N' ≤ N) (hS : ∀ k, k < N' → S k → S' k) : Upd S' N' w w' :=
  ⟨h.os, h.tape, h.output, h.size, fun k hk hs => h.block k (by omega) (fun c => hs (hS k hk c))⟩
theorem Upd.less {S : Nat → Prop} {N N' : Nat} {w w' : World} (h : Upd S N w w') (hN : N' ≤ N) : Upd S N' w w' := h.mono hN fun _ _ c => c
theorem Upd.drew {S : Nat → Prop} {N : Nat} {a w : World} (h : Upd S N a w) : Upd S N a w.drew := ⟨h.os, h.tape, h.output, h.size, h.block⟩
theorem Upd.alloc {S : Nat → Prop} {N : Nat} {a w : World} (h : Upd S N a w) (hN : N ≤ w.heap.size) (o : Obj) : Upd S N a (w.alloc o) :=
  h.trans ⟨rfl, rfl, rfl, by simp, fun k hk _ => Below.heap_alloc _ _ _ (by omega)⟩
theorem Upd.setCell {S : Nat → Prop} {N : Nat} {a w : World} (h : Upd S N a w) {p : Addr} (hp : S p.block ∨ N ≤ p.block) (u : Value) : Upd S N a (w.setCell p u) :=
  h.trans ⟨rfl, rfl, rfl, by simp [World.setCell], fun k hk hs => Below.heap_setCell _ _ _ _ (by rintro rfl; rcases hp with hp | hp; exact hs hp; omega)⟩
theorem Upd.of {S : Nat → Prop} {B : Nat} {w w' : World} (h : Below B w w') : Upd S B w w' := ⟨h.os, h.tape, h.output, h.size, fun k hk _ => h.block k hk⟩
theorem Upd.below {S : Nat → Prop} {N B : Nat} {w w' : World} (h : Upd S N w w') (hB : B ≤ N) (hS : ∀ k, k < B → ¬ S k) : Below B w w' := ⟨h.os, h.tape, h.output, h.size, fun k hk => h.block k (by omega) (hS k hk)⟩
theorem Upd.cell {S : Nat → Prop} {N : Nat} {w w' : World} (h : Upd S N w w') {p : Addr} (hp : p.block < N) (hs : ¬ S p.block) : w'.cell? p = w.cell? p := World.cell?_of_block (w := w) (h.block p.block hp hs)
theorem Upd.frozen {S : Nat → Prop} {N : Nat} {w w' : World} (h : Upd S N w w') {p : Addr} (hp : p.block < N) (hs : ¬ S p.block) : w'.frozen? p = w.frozen? p := World.frozen?_of_block (w := w) (h.block p.block hp hs)

theorem addr_ne {b b' o o' : Nat} (h : b ≠ b' ∨ o ≠ o') : (⟨b, o, none⟩ : Addr) ≠ ⟨b', o', none⟩ := by
  intro e; simp only [Addr.mk.injEq, and_true] at e; omega
theorem cs_other {w : World} {a b : Addr} {v : Value} (h : a ≠ b) : (w.setCell a v).cell? b = w.cell? b := World.cell?_setCell_other w a b v h
theorem cs_same {w : World} {a : Addr} {v u : Value} (h : w.cell? a = some u) : (w.setCell a v).cell? a = some v := World.cell?_setCell_same w a v h


theorem frozen_of_heap {w : World} {b o : Nat} {cs : Array Value} {T : TypeId} (h : w.heap[b]? = some (.cells cs T)) : w.frozen? ⟨b, o, none⟩ = false := by
  simp [World.frozen?, h]

def hdN (hd : Nat) : Nd := ⟨hd, (0, 0), 0, 0, 0⟩
def nodeC (n : Nd) (N : Nat → Value) : Array Value := #[.int .i32 n.k.1, .int .i64 n.k.2, .int .i64 n.v, .int .i64 n.s, .int .i64 n.h, N 0, N 1, N 2, N 3, N 4, N 5, N 6, N 7]
def skC (hd : Nat) (La : Nat → Nat) (many luck : Int) : Array Value := #[PN hd, PN (La 0), PN (La 1), PN (La 2), PN (La 3), PN (La 4), PN (La 5), PN (La 6), PN (La 7), .int .i64 many, .int .u64 luck]
def setN (N : Nat → Nat → Value) (q lev : Nat) (v : Value) : Nat → Nat → Value := fun p l => if p = q ∧ l = lev then v else N p l
def setF (La : Nat → Nat) (lev v : Nat) : Nat → Nat := fun l => if l = lev then v else La l

theorem upto8 {P : Nat → Prop} (h0 : P 0) (h1 : P 1) (h2 : P 2) (h3 : P 3) (h4 : P 4) (h5 : P 5) (h6 : P 6) (h7 : P 7) {lev : Nat} (h : lev < 8) : P lev := by
  match lev, h with
  | 0, _ => exact h0
  | 1, _ => exact h1
  | 2, _ => exact h2
  | 3, _ => exact h3
  | 4, _ => exact h4
  | 5, _ => exact h5
  | 6, _ => exact h6
  | 7, _ => exact h7
  | k + 8, h => omega
theorem nodeC_next (n : Nd) (N : Nat → Value) {lev : Nat} (h : lev < 8) : (nodeC n N)[5 + lev]? = some (N lev) := by
  refine upto8 (P := fun lev => (nodeC n N)[5 + lev]? = some (N lev)) ?_ ?_ ?_ ?_ ?_ ?_ ?_ ?_ h <;> rfl
theorem skC_last (hd : Nat) (La : Nat → Nat) (many luck : Int) {lev : Nat} (h : lev < 8) : (skC hd La many luck)[1 + lev]? = some (PN (La lev)) := by
  refine upto8 (P := fun lev => (skC hd La many luck)[1 + lev]? = some (PN (La lev))) ?_ ?_ ?_ ?_ ?_ ?_ ?_ ?_ h <;> rfl
theorem nodeC_set (n : Nd) (N : Nat → Value) {lev : Nat} (h : lev < 8) (v : Value) : (nodeC n N).setIfInBounds (5 + lev) v = nodeC n (fun l => if l = lev then v else N l) := by
  refine upto8 (P := fun lev => (nodeC n N).setIfInBounds (5 + lev) v = nodeC n (fun l => if l = lev then v else N l)) ?_ ?_ ?_ ?_ ?_ ?_ ?_ ?_ h <;> simp [nodeC]
theorem skC_setLast (hd : Nat) (La : Nat → Nat) (many luck : Int) {lev : Nat} (h : lev < 8) (v : Nat) : (skC hd La many luck).setIfInBounds (1 + lev) (PN v) = skC hd (setF La lev v) many luck := by
  refine upto8 (P := fun lev => (skC hd La many luck).setIfInBounds (1 + lev) (PN v) = skC hd (setF La lev v) many luck) ?_ ?_ ?_ ?_ ?_ ?_ ?_ ?_ h <;> simp [skC, setF]
theorem skC_setMany (hd : Nat) (La : Nat → Nat) (many luck v : Int) : (skC hd La many luck).setIfInBounds 9 (.int .i64 v) = skC hd La v luck := by simp [skC]
theorem skC_setLuck (hd : Nat) (La : Nat → Nat) (many luck v : Int) : (skC hd La many luck).setIfInBounds 10 (.int .u64 v) = skC hd La many v := by simp [skC]

/-- The cells of a skip list. -/
structure SkM (w : World) (sb hd : Nat) (L : List Nd) (N : Nat → Nat → Value) (La : Nat → Nat) (many luck : Int) : Prop where
  sk : w.heap[sb]? = some (.cells (skC hd La many luck) 75)
  head : w.heap[hd]? = some (.cells (nodeC (hdN hd) (N hd)) 85)
  node : ∀ n ∈ L, w.heap[n.p]? = some (.cells (nodeC n (N n.p)) 85)
/-- The blocks of a skip list. -/
def Bl (sb hd : Nat) (L : List Nd) (k : Nat) : Prop := k = sb ∨ k = hd ∨ ∃ n ∈ L, n.p = k
/-- The head, or a node. -/
def On (hd : Nat) (L : List Nd) (q : Nat) : Prop := q = hd ∨ ∃ n ∈ L, n.p = q
theorem lstP_on (hd lev : Nat) {A B : List Nd} : On hd (A ++ B) (lstP hd lev A) := by
  rcases lstP_mem hd lev A with e | ⟨n, hn, e, _⟩
  · exact .inl e
  · exact .inr ⟨n, List.mem_append_left _ hn, e⟩
section
variable {w : World} {sb hd : Nat} {L : List Nd} {N : Nat → Nat → Value} {La : Nat → Nat} {many luck : Int}
theorem SkM.on (h : SkM w sb hd L N La many luck) {q : Nat} (hq : On hd L q) : ∃ n, n.p = q ∧ w.heap[q]? = some (.cells (nodeC n (N q)) 85) := by
  rcases hq with rfl | ⟨n, hn, rfl⟩
  · exact ⟨_, rfl, h.head⟩
  · exact ⟨n, rfl, h.node n hn⟩
theorem SkM.ne (h : SkM w sb hd L N La many luck) {q : Nat} (hq : On hd L q) : q ≠ sb := fun e => by
  obtain ⟨n, _, hh⟩ := h.on hq
  rw [e, h.sk] at hh
  simp at hh
theorem SkM.next (h : SkM w sb hd L N La many luck) {q lev : Nat} (hq : On hd L q) (hl : lev < 8) : w.cell? ⟨q, 5 + lev, none⟩ = some (N q lev) := by
  obtain ⟨n, _, hh⟩ := h.on hq
  rw [cell_at hh, nodeC_next _ _ hl]
theorem SkM.last (h : SkM w sb hd L N La many luck) {lev : Nat} (hl : lev < 8) : w.cell? ⟨sb, 1 + lev, none⟩ = some (PN (La lev)) := by rw [cell_at h.sk, skC_last _ _ _ _ hl]
theorem SkM.frozenN (h : SkM w sb hd L N La many luck) {q o : Nat} (hq : On hd L q) : w.frozen? ⟨q, o, none⟩ = false := by
  obtain ⟨n, _, hh⟩ := h.on hq
  exact frozen_of_heap hh
theorem SkM.frozenS (h : SkM w sb hd L N La many luck) {o : Nat} : w.frozen? ⟨sb, o, none⟩ = false := frozen_of_heap h.sk
theorem SkM.lt (h : SkM w sb hd L N La many luck) {k : Nat} (hk : Bl sb hd L k) : k < w.heap.size := by
  rcases hk with rfl | rfl | ⟨n, hn, rfl⟩
  · exact (Array.getElem?_eq_some_iff.1 h.sk).1
  · exact (Array.getElem?_eq_some_iff.1 h.head).1
  · exact (Array.getElem?_eq_some_iff.1 (h.node n hn)).1
theorem SkM.keep (h : SkM w sb hd L N La many luck) {w' : World} (hk : ∀ k, Bl sb hd L k → w'.heap[k]? = w.heap[k]?) : SkM w' sb hd L N La many luck :=
  ⟨(hk _ (.inl rfl)).trans h.sk, (hk _ (.inr (.inl rfl))).trans h.head, fun n hn => (hk _ (.inr (.inr ⟨n, hn, rfl⟩))).trans (h.node n hn)⟩
theorem SkM.below (h : SkM w sb hd L N La many luck) {w' : World} (hb : Below w.heap.size w w') : SkM w' sb hd L N La many luck := h.keep fun k hk => hb.block k (h.lt hk)
theorem SkM.setNext (h : SkM w sb hd L N La many luck) (_ha : Apart hd L) {q lev : Nat} (hq : On hd L q) (hl : lev < 8) (v : Value) : SkM (w.setCell ⟨q, 5 + lev, none⟩ v) sb hd L (setN N q lev v) La many luck := by
  have hne := h.ne hq
  refine ⟨?_, ?_, fun n hn => ?_⟩
  · rw [Below.heap_setCell _ _ _ _ (show sb ≠ q from fun e => hne e.symm)]; exact h.sk
  · by_cases c : hd = q
    · subst c
      rw [heap_setCell_same w hd (5 + lev) _ 85 v h.head, nodeC_set _ _ hl]
      rw [show setN N hd lev v hd = fun l => if l = lev then v else N hd l from by funext l; simp [setN]]
    · rw [Below.heap_setCell _ _ _ _ (show hd ≠ q from c), h.head]
      have : setN N q lev v hd = N hd := by funext l; simp [setN, c]
      rw [this]
  · by_cases c : n.p = q
    · subst c
      rw [heap_setCell_same w n.p (5 + lev) _ 85 v (h.node n hn), nodeC_set _ _ hl]
      rw [show setN N n.p lev v n.p = fun l => if l = lev then v else N n.p l from by funext l; simp [setN]]
    · rw [Below.heap_setCell _ _ _ _ (show n.p ≠ q from c), h.node n hn]
      have : setN N q lev v n.p = N n.p := by funext l; simp [setN, c]
      rw [this]
theorem SkM.setLast (h : SkM w sb hd L N La many luck) {lev : Nat} (hl : lev < 8) (v : Nat) : SkM (w.setCell ⟨sb, 1 + lev, none⟩ (PN v)) sb hd L N (setF La lev v) many luck := by
  refine ⟨?_, ?_, fun n hn => ?_⟩
  · rw [heap_setCell_same w sb (1 + lev) _ 75 _ h.sk, skC_setLast _ _ _ _ hl]
  · rw [Below.heap_setCell _ _ _ _ (show hd ≠ sb from h.ne (.inl rfl))]; exact h.head
  · rw [Below.heap_setCell _ _ _ _ (show n.p ≠ sb from h.ne (.inr ⟨n, hn, rfl⟩))]; exact h.node n hn
theorem SkM.setMany (h : SkM w sb hd L N La many luck) (v : Int) : SkM (w.setCell ⟨sb, 9, none⟩ (.int .i64 v)) sb hd L N La v luck := by
  refine ⟨?_, ?_, fun n hn => ?_⟩
  · rw [heap_setCell_same w sb 9 _ 75 _ h.sk, skC_setMany]
  · rw [Below.heap_setCell _ _ _ _ (show hd ≠ sb from h.ne (.inl rfl))]; exact h.head
  · rw [Below.heap_setCell _ _ _ _ (show n.p ≠ sb from h.ne (.inr ⟨n, hn, rfl⟩))]; exact h.node n hn
theorem SkM.setLuck (h : SkM w sb hd L N La many luck) (v : Int) : SkM (w.setCell ⟨sb, 10, none⟩ (.int .u64 v)) sb hd L N La many v := by
  refine ⟨?_, ?_, fun n hn => ?_⟩
  · rw [heap_setCell_same w sb 10 _ 75 _ h.sk, skC_setLuck]
  · rw [Below.heap_setCell _ _ _ _ (show hd ≠ sb from h.ne (.inl rfl))]; exact h.head
  · rw [Below.heap_setCell _ _ _ _ (show n.p ≠ sb from h.ne (.inr ⟨n, hn, rfl⟩))]; exact h.node n hn
end

/-- What a node may hold. -/
structure OkN (n : Nd) : Prop where
  t : -2147483648 ≤ n.k.1 ∧ n.k.1 ≤ 2147483647
  r : -9223372036854775808 ≤ n.k.2 ∧ n.k.2 ≤ 9223372036854775807
  v : -9223372036854775808 ≤ n.v ∧ n.v ≤ 9223372036854775807
  s : 0 ≤ n.s ∧ n.s ≤ 1099511627776
  h : 1 ≤ n.h ∧ n.h ≤ 8

/-- A store in memory: its keys rise, each stands on its levels; all of it lies from b0 on. -/
structure Sk (w : World) (b0 sb hd : Nat) (L : List Nd) (luck : Int) : Prop where
  mem : ∃ N, SkM w sb hd L N (fun lev => lstP hd lev L) L.length luck ∧ ∀ lev, lev < 8 → Lk N lev hd L
  rise : Rising L
  apart : Apart hd L
  ok : ∀ n ∈ L, OkN n
  most : L.length ≤ 1048576
  from_ : ∀ k, Bl sb hd L k → b0 ≤ k
  lk : 0 ≤ luck ∧ luck < 18446744073709551616
theorem Sk.lt {w : World} {b0 sb hd : Nat} {L : List Nd} {luck : Int} (h : Sk w b0 sb hd L luck) {k : Nat} (hk : Bl sb hd L k) : k < w.heap.size := by
  obtain ⟨N, hm, _⟩ := h.mem
  exact hm.lt hk
theorem Sk.keep {w w' : World} {b0 sb hd : Nat} {L : List Nd} {luck : Int} (h : Sk w b0 sb hd L luck) (hk : ∀ k, Bl sb hd L k → w'.heap[k]? = w.heap[k]?) : Sk w' b0 sb hd L luck := by
  obtain ⟨N, hm, hl⟩ := h.mem
  exact ⟨⟨N, hm.keep hk, hl⟩, h.rise, h.apart, h.ok, h.most, h.from_, h.lk⟩
theorem Sk.below {w w' : World} {b0 sb hd : Nat} {L : List Nd} {luck : Int} (h : Sk w b0 sb hd L luck) (hb : Below w.heap.size w w') : Sk w' b0 sb hd L luck := h.keep fun _ hk => hb.block _ (h.lt hk)
theorem Sk.upd {w w' : World} {b0 sb hd : Nat} {L : List Nd} {luck : Int} {S : Nat → Prop} (h : Sk w b0 sb hd L luck) (hb : Upd S w.heap.size w w') (hS : ∀ k, Bl sb hd L k → ¬ S k) : Sk w' b0 sb hd L luck := h.keep fun k hk => hb.block k (h.lt hk) (hS k hk)
end Go.Proofs.YtdcmkapfcmibeaaDoor
