/- The document's New. -/
import Derived.Test.YtgehhoddmmjmjaaR2
import Derived.Deep.AppendLies
namespace Go.Proofs.Ytgehhoddmmjmjaa
open Go.RowKit
set_option maxRecDepth 100000

/-- The document's book while its rows are made: k of the one, j of the other. -/
structure NR (w : World) (n s : Nat) (l : Int) (k j : Nat) (v u : Value) (x : World) : Prop where
  c0 : x.cell? ⟨w.heap.size + 1, 0, none⟩ = some (.int .i64 n)
  c1 : x.cell? ⟨w.heap.size + 1, 1, none⟩ = some (.int .i64 s)
  c2 : x.cell? ⟨w.heap.size + 1, 2, none⟩ = some (.int .i64 l)
  c3 : x.cell? ⟨w.heap.size + 1, 3, none⟩ = some v
  c4 : x.cell? ⟨w.heap.size + 1, 4, none⟩ = some u
  fr : ∀ o, x.frozen? ⟨w.heap.size + 1, o, none⟩ = false
  r3 : x.ownsRow (w.heap.size + 2) 2 1 v k (ints .i64 (List.replicate k l))
  r4 : x.ownsRow (w.heap.size + 2) 2 1 u j (ints .i64 (List.replicate j 0))
  ap : ∀ q, v.ownBlock = some q → u.ownBlock ≠ some q
  lo : Below (w.heap.size + 1) (bx w n s) x
theorem NR.size {w : World} {n s : Nat} {l : Int} {k j : Nat} {v u : Value} {x : World} (h : NR w n s l k j v u x) : w.heap.size + 2 ≤ x.heap.size := World.block_lt_of_cell? x _ h.c0

theorem far_cell {a b : World} {row : Option Nat} {q o : Nat} (hg : a.grownBy b row) (hq : q < a.heap.size) (hr : ∀ k, row = some k → k ≠ q) : b.cell? ⟨q, o, none⟩ = a.cell? ⟨q, o, none⟩ ∧ b.frozen? ⟨q, o, none⟩ = a.frozen? ⟨q, o, none⟩ := by
  have h := hg.block q hq (fun e => hr q e.symm rfl)
  exact ⟨World.cell?_of_block (w := a) h, World.frozen?_of_block (w := a) h⟩

/-- What is kept of the struct by an append to a row of its own. -/
theorem NR.kept {w : World} {n s : Nat} {l : Int} {k j : Nat} {v u : Value} {x y : World} (h : NR w n s l k j v u x) (o : Obj) {row : Option Nat} (hg : (x.alloc o).grownBy y row) (hr : ∀ q, row = some q → w.heap.size + 2 ≤ q) (t : Nat) :
    y.cell? ⟨w.heap.size + 1, t, none⟩ = x.cell? ⟨w.heap.size + 1, t, none⟩ ∧ y.frozen? ⟨w.heap.size + 1, t, none⟩ = false := by
  have hs := h.size
  have h1 := far_cell (q := w.heap.size + 1) (o := t) hg (by simp; omega) (fun k e => by have := hr k e; omega)
  have hb := (Below.refl x.heap.size x).alloc (Nat.le_refl _) o
  refine ⟨h1.1.trans (hb.cell (p := ⟨w.heap.size + 1, t, none⟩) (by show w.heap.size + 1 < _; omega)), ?_⟩
  rw [h1.2, World.frozen?_of_block (w := x) (hb.block _ (by show w.heap.size + 1 < _; omega))]
  exact h.fr t

theorem row_set {x : World} {base : Nat} {e : TypeId} {v : Value} {n q o : Nat} {xs : List Value} (h : x.ownsRow base e 1 v n xs) (hq : q < base) (u : Value) : (x.setCell ⟨q, o, none⟩ u).ownsRow base e 1 v n xs := ownsRow_setCell_below h (a := ⟨q, o, none⟩) hq u

theorem NR.step3 {w : World} {n s : Nat} {l : Int} {k j : Nat} {v u : Value} {x y : World} (h : NR w n s l k j v u x) (o : Obj) {g cap : Nat} (hown : y.ownsRow (w.heap.size + 2) 2 1 (.slice (some ⟨g, 0, none⟩) (k + 1) cap) (k + 1) (ints .i64 (List.replicate k l) ++ ints .i64 [l])) (hg : (x.alloc o).grownBy y v.ownBlock) (hat : v.ownBlock = some g ∨ g = x.heap.size + 1) :
    NR w n s l (k + 1) j (.slice (some ⟨g, 0, none⟩) (k + 1) cap) u (y.setCell ⟨w.heap.size + 1, 3, none⟩ (.slice (some ⟨g, 0, none⟩) (k + 1) cap)) := by
  have hk := h.kept o hg (fun q e => (h.r3.lt q e).1)
  have hs := h.size
  have co : ∀ t, t ≠ 3 → (y.setCell ⟨w.heap.size + 1, 3, none⟩ (.slice (some ⟨g, 0, none⟩) (k + 1) cap)).cell? ⟨w.heap.size + 1, t, none⟩ = x.cell? ⟨w.heap.size + 1, t, none⟩ := fun t ht => by rw [cs_other (addr_ne (Or.inr ht.symm))]; exact (hk t).1
  have hb : Below (w.heap.size + 1) (bx w n s) y := by
    refine (h.lo.alloc (by omega) o).grown hg (by simp; omega) (fun q e => ?_)
    have := (h.r3.lt q e).1; omega
  refine ⟨by rw [co 0 (by decide)]; exact h.c0, by rw [co 1 (by decide)]; exact h.c1, by rw [co 2 (by decide)]; exact h.c2, cs_same ((hk 3).1.trans h.c3), by rw [co 4 (by decide)]; exact h.c4, fun t => by rw [World.frozen?_setCell]; exact (hk t).2, ?_, ?_, fun q e => ?_, hb.setCell (p := ⟨w.heap.size + 1, 3, none⟩) (Nat.le_refl _) _⟩
  · refine row_set ?_ (by omega) _
    have e : List.replicate (k + 1) l = List.replicate k l ++ [l] := by rw [List.replicate_succ']
    rw [e, ints_append]; exact hown
  · refine row_set ((h.r4.alloc o).kept hg ?_) (by omega) _
    cases hv : v.ownBlock with
    | none => cases hu : u.ownBlock with
      | none => exact Or.inl rfl
      | some q => exact Or.inr (by simp)
    | some q => exact Or.inr (h.ap q hv)
  · have e' : q = g := by simpa [Value.ownBlock] using e.symm
    subst e'
    rcases hat with hv | hv
    · exact h.ap _ hv
    · intro c; have := (h.r4.lt _ c).2; omega

theorem NR.step4 {w : World} {n s : Nat} {l : Int} {k j : Nat} {v u : Value} {x y : World} (h : NR w n s l k j v u x) (o : Obj) {g cap : Nat} (hown : y.ownsRow (w.heap.size + 2) 2 1 (.slice (some ⟨g, 0, none⟩) (j + 1) cap) (j + 1) (ints .i64 (List.replicate j 0) ++ ints .i64 [0])) (hg : (x.alloc o).grownBy y u.ownBlock) (hat : u.ownBlock = some g ∨ g = x.heap.size + 1) :
    NR w n s l k (j + 1) v (.slice (some ⟨g, 0, none⟩) (j + 1) cap) (y.setCell ⟨w.heap.size + 1, 4, none⟩ (.slice (some ⟨g, 0, none⟩) (j + 1) cap)) := by
  have hk := h.kept o hg (fun q e => (h.r4.lt q e).1)
  have hs := h.size
  have co : ∀ t, t ≠ 4 → (y.setCell ⟨w.heap.size + 1, 4, none⟩ (.slice (some ⟨g, 0, none⟩) (j + 1) cap)).cell? ⟨w.heap.size + 1, t, none⟩ = x.cell? ⟨w.heap.size + 1, t, none⟩ := fun t ht => by rw [cs_other (addr_ne (Or.inr ht.symm))]; exact (hk t).1
  have hb : Below (w.heap.size + 1) (bx w n s) y := by
    refine (h.lo.alloc (by omega) o).grown hg (by simp; omega) (fun q e => ?_)
    have := (h.r4.lt q e).1; omega
  refine ⟨by rw [co 0 (by decide)]; exact h.c0, by rw [co 1 (by decide)]; exact h.c1, by rw [co 2 (by decide)]; exact h.c2, by rw [co 3 (by decide)]; exact h.c3, cs_same ((hk 4).1.trans h.c4), fun t => by rw [World.frozen?_setCell]; exact (hk t).2, ?_, ?_, fun q e c => ?_, hb.setCell (p := ⟨w.heap.size + 1, 4, none⟩) (Nat.le_refl _) _⟩
  · refine row_set ((h.r3.alloc o).kept hg ?_) (by omega) _
    cases hv : v.ownBlock with
    | none => exact Or.inl rfl
    | some q => exact Or.inr (Ne.symm (h.ap q hv))
  · refine row_set ?_ (by omega) _
    have e : List.replicate (j + 1) (0 : Int) = List.replicate j 0 ++ [0] := by rw [List.replicate_succ']
    rw [e, ints_append]; exact hown
  · have e' : q = g := by simpa [Value.ownBlock] using c.symm
    subst e'
    rcases hat with hv | hv
    · exact h.ap _ e hv
    · have := (h.r3.lt _ e).2; omega

theorem NR.book {w : World} {n s : Nat} {l : Int} {v u : Value} {x : World} (h : NR w n s l n n v u x) (hn : 0 < n) : ∃ b cb d cd, IsR x (w.heap.size + 1) b cb d cd (Bk.new n s l) ∧ w.heap.size + 2 ≤ b ∧ w.heap.size + 2 ≤ d := by
  have h3 := h.r3; have h4 := h.r4
  rcases h.r3.2 with ⟨_, e⟩ | ⟨b, cb, cur, rfl, hb, hbb, hnb, _, _, _⟩
  · omega
  rcases h.r4.2 with ⟨_, e⟩ | ⟨d, cd, cur', rfl, hd, hdb, hnd, _, _, _⟩
  · omega
  have hbd : b ≠ d := fun e => h.ap b rfl (by rw [e]; rfl)
  have ad : ∀ (g t : Nat), (⟨g, 0, none⟩ : Addr).add t = ⟨g, t, none⟩ := fun g t => by unfold Addr.add; split <;> simp_all
  refine ⟨b, cb, d, cd, ⟨by omega, by omega, hbd, hnb, hnd, h.c0, h.c1, ?_, h.c3, h.c4, fun i hi hs => ?_, fun i hi hs => ?_, (Array.getElem?_eq_some_iff.1 hbb).1, (Array.getElem?_eq_some_iff.1 hdb).1, h.fr, fun o => by unfold World.frozen?; rw [hbb]; simp, fun o => by unfold World.frozen?; rw [hdb]; simp⟩, hb, hd⟩
  · show _ = some (Value.int .i64 (if s = s then l else 0))
    rw [if_pos rfl]; exact h.c2
  · have hi' : i < n := hi
    have := h3.cells (g := b) rfl i (.int .i64 l) (by simp [ints, hi'])
    rw [ad] at this
    show _ = some (Value.int .i64 (if i < n then l else 0))
    rw [if_pos hi']; exact this
  · have hi' : i < n := hi
    have := h4.cells (g := d) rfl i (.int .i64 0) (by simp [ints, hi'])
    rw [ad] at this
    show _ = some (Value.int .i64 (if i = s then l else 0))
    rw [if_neg (show ¬ i = s from hs)]; exact this

def AtNew (w : World) (n s : Nat) (l : Int) (c : Value) (x : World) : Prop := ∃ k v u, k ≤ n ∧ c = .int .i64 (k : Nat) ∧ NR w n s l k k v u x

/-- The document's book was made anew. -/
def NewR (w' : World) (N : Nat) (B : Bk) : Prop := ∃ b cb d cd, IsR w' (N + 1) b cb d cd B ∧ N + 2 ≤ b ∧ N + 2 ≤ d

set_option maxHeartbeats 1600000 in
theorem rnew_ok (w : World) (n s : Nat) (l : Int) (h0 : 1 ≤ n) (h1 : n ≤ 5) (h3 : s < n) (h4 : 0 ≤ l) (h5 : l ≤ 1099511627776) :
    Calls Try.prog 9 #[.agg #[.int .i64 n, .int .i64 s], .int .i64 l] w fun e w' => e = .returned (.tuple #[P0 (w.heap.size + 1), .int .i64 0]) ∧ NewR w' w.heap.size (Bk.new n s l) ∧ Below w.heap.size w w' := by
  obtain ⟨i2, hi2, hz0, hz1, hz2⟩ := info_parts Try.info2
  have HBX : Hid (∀ x, Below (w.heap.size + 1) (bx w n s) x → x.cell? ⟨w.heap.size, 0, none⟩ = some (.int .i64 n) ∧ x.cell? ⟨w.heap.size, 1, none⟩ = some (.int .i64 s)) := fun x hx => box2b hx
  obtain ⟨Y, hY⟩ : ∃ Y, (bx w n s).alloc (.cells #[.int .i64 n, .int .i64 s, .int .i64 l, .slice none 0 0, .slice none 0 0] 62) = Y := ⟨_, rfl⟩
  have HN : Hid (AtNew w n s l (.int .i64 0) Y) := by
    have hnw := heap_alloc_new (bx w n s) (.cells #[.int .i64 n, .int .i64 s, .int .i64 l, .slice none 0 0, .slice none 0 0] 62)
    rw [hY, bx_size] at hnw
    have c := fun o => cell_of_row Y (w.heap.size + 1) o _ _ _ hnw
    exact ⟨0, .slice none 0 0, .slice none 0 0, Nat.zero_le _, rfl, c 0, c 1, c 2, c 3, c 4, fun o => by unfold World.frozen?; rw [hnw]; simp, World.ownsRow_nil _ _ _ _, World.ownsRow_nil _ _ _ _, (fun q e => by cases e), by rw [← hY]; exact (Below.refl _ _).alloc (by simp) _⟩
  have k1 : decide ((n : Int) < 1) = false := by rw [decide_eq_false_iff_not]; omega
  have k2 : decide (5 < (n : Int)) = false := by simp; omega
  have k3 : decide ((s : Int) < 0) = false := by rw [decide_eq_false_iff_not]; omega
  have k4 : decide (l < 0) = false := by simp; omega
  have k5 : decide (1099511627776 < l) = false := by simp; omega
  have k6 : decide (n ≤ s) = false := by simp; omega
  go_enter Try.func9, Try.ntmps9
  go_wp2_with (rw [hY])
  clear k1 k2 k3 k4 k5 k6
  go_loopw [7] (fun c x => AtNew w n s l c x) (fun c _ => n - (intOf c).toNat)
  case atStart => exact unhide HN
  case round =>
    clear HN hY
    obtain ⟨k, v, u, hk, rfl, R⟩ := hrel
    obtain ⟨q0, q1⟩ := unhide HBX wr R.lo
    by_cases hlt : k < n
    · have c3 := R.c3
      obtain ⟨va, vc, rfl⟩ := own_shape R.r3
      obtain ⟨ua, uc, rfl⟩ := own_shape R.r4
      have HR := hide R
      clear R
      go_wp2_with (at_builtin; refine wpList_append_lies _ rfl _ _ 60 rfl (w.heap.size + 2) 2 i2 (.int .i64 0) 1 8 Try.underlying60 hi2 hz0 hz1 hz2 rfl (by decide) _ k _ rfl ((unhide HR).r3.alloc _) ⟨wr.heap.size, 0, none⟩ 1 1 (ints .i64 [l]) rfl rfl ?d0 ?d1 (by decide) ?d2 ?d3 ?d4 (wr.heap.size + 1) (by simp) ?_)
      case d0 =>
        intro j y hj
        cases j with
        | zero => simp [ints] at hj; subst hj; exact World.cell?_alloc_mark wr _ 2 (0, 0) 0
        | succ j => simp [ints] at hj
      case d1 => intro y hy; simp [ints] at hy; subst hy; rfl
      case d2 => unfold maxLen; omega
      case d3 => omega
      case d4 => have := (unhide HR).size; simp; omega
      intro g1 cap1 w2 hown1 hg1 hat1 _
      have e3 := (unhide HR).kept _ hg1 (fun q e => ((unhide HR).r3.lt q e).1) 3
      have d3 : w2.cell? ⟨w.heap.size + 1, 3, none⟩ = some (.slice va k vc) := e3.1.trans (unhide HR).c3
      have f3 := e3.2
      have HR1 := hide ((unhide HR).step3 _ hown1 hg1 hat1)
      have c4 := (unhide HR1).c4
      have HSZ : Hid ((w2.setCell ⟨w.heap.size + 1, 3, none⟩ (.slice (some ⟨g1, 0, none⟩) (k + 1) cap1)).heap.size = w2.heap.size) := by show _ = _; simp [World.setCell]
      clear e3 c3 hown1 hg1 hat1
      go_wp2_with (at_builtin; refine wpList_append_lies _ rfl _ _ 60 rfl (w.heap.size + 2) 2 i2 (.int .i64 0) 1 8 Try.underlying60 hi2 hz0 hz1 hz2 rfl (by decide) _ k _ rfl ((unhide HR1).r4.alloc _) ⟨w2.heap.size, 0, none⟩ 1 1 (ints .i64 [0]) rfl rfl ?e0 ?e1 (by decide) ?e2 ?e3 ?e4 (w2.heap.size + 1) (by simp [World.setCell]) ?_)
      case e0 =>
        intro j y hj
        cases j with
        | zero =>
          simp [ints] at hj; subst hj
          have := World.cell?_alloc_mark (w2.setCell ⟨w.heap.size + 1, 3, none⟩ (.slice (some ⟨g1, 0, none⟩) (k + 1) cap1)) #[.int .i64 0] 2 (0, 0) 0
          rw [unhide HSZ] at this
          exact this
        | succ j => simp [ints] at hj
      case e1 => intro y hy; simp [ints] at hy; subst hy; rfl
      case e2 => unfold maxLen; omega
      case e3 => omega
      case e4 => have := (unhide HR1).size; have := unhide HSZ; rw [World.size_alloc]; omega
      intro g2 cap2 w3 hown2 hg2 hat2 _
      have e4 := (unhide HR1).kept _ hg2 (fun q e => ((unhide HR1).r4.lt q e).1) 4
      have d4 : w3.cell? ⟨w.heap.size + 1, 4, none⟩ = some (.slice ua k uc) := e4.1.trans (unhide HR1).c4
      have f4 := e4.2
      have HR2 : Hid (AtNew w n s l (.int .i64 ((k : Int) + 1)) _) := ⟨k + 1, _, _, by omega, by simp, (unhide HR1).step4 _ hown2 hg2 (by rw [unhide HSZ]; exact hat2)⟩
      clear e4 c4 hown2 hg2 hat2 d3 f3
      go_wp2
      go_roundw
      case rel => first | exact unhide HR2 | ((repeat apply Exists.intro); exact ⟨unhide HR2, rfl⟩)
      case measure => simp [intOf]; omega
    · obtain rfl : k = n := by omega
      have HF : Hid (NewR wr w.heap.size (Bk.new k s l) ∧ Below w.heap.size w wr) := ⟨R.book (by omega), (bx_below w k s).trans (R.lo.mono (by omega))⟩
      clear R
      go_wp2
      go_ret2
      exact ⟨rfl, unhide HF⟩

set_option maxHeartbeats 400000 in
theorem rnew_arg (w : World) (n s l : Int) (h : okNew n s l = false) :
    Calls Try.prog 9 #[.agg #[.int .i64 n, .int .i64 s], .int .i64 l] w fun e w' => e = .returned (.tuple #[.pointer none, .int .i64 1]) ∧ Below w.heap.size w w' := by
  rcases okNew_not h with c | ⟨c, c1⟩ | ⟨c, c1, c2⟩ | ⟨c, c1, c2, c3⟩ | ⟨c, c1, c2, c3, c4⟩ | ⟨c, c1, c2, c3, c4, c5⟩
  all_goals
    clear h
    go_enter Try.func9, Try.ntmps9
    go_wp2
    go_ret2
    exact ⟨rfl, (Below.refl _ _).alloc (Nat.le_refl _) _⟩

end Go.Proofs.Ytgehhoddmmjmjaa
