/- The document's Hear, Stand, New. -/
import Derived.Test.YtpadbbkklmgimaaM3
import Derived.Deep.RegionLaw
import Derived.RangeFuncBox
namespace Go.Proofs.Ytpadbbkklmgimaa
open Go.RowKit

/-- The document's vote lies at block r; its votes at block b, or in a block that is not below N. -/
def HasR (w : World) (r b N : Nat) (V : Vt) : Prop := ∃ b' cap', IsR w r b' cap' V ∧ (b' = b ∨ N ≤ b')

theorem Try.info4 : (Try.prog.info? 4).map (fun i => (i.zero, i.size, i.bytes)) = some (some (.bool false), 1, 1) := by kernel_rfl
def zB (n : Nat) : Array Value := madeCells #[.bool false] n
theorem makeB (n : Nat) (hn : n ≤ 5) (W : World) : (Instr.makeSlice 67 (.int .i64 n) (.int .i64 n)).run Try.prog W = .ok (.slice (some ⟨W.heap.size, 0, none⟩) n n) (W.alloc (.cells (zB n) 4)) := by
  obtain ⟨i4, hi4, hz0, hz1, hz2⟩ := info_parts Try.info4
  have h := run_make (P := Try.prog) W 67 4 i4 _ Try.underlying67 hi4 hz0 .i64 .i64 n n (by omega) (by omega) (by rw [hz2]; omega) (by omega)
  rw [hz1] at h
  rw [Nat.mul_one] at h
  exact h
theorem zB_at (n i : Nat) (h : i < n) : (zB n)[i]? = some (.bool false) := by
  unfold zB madeCells
  rw [Array.getElem?_map, Array.getElem?_range, if_pos h]
  simp [Nat.mod_one]

/-- A new row of votes in the document's vote. -/
theorem IsR.begin {w : World} {r b cap : Nat} {V : Vt} (H : IsR w r b cap V) (t x : Int) :
    IsR (((((w.setCell ⟨r, 2, none⟩ (.int .i64 t)).setCell ⟨r, 3, none⟩ (.int .i64 x)).setCell ⟨r, 4, none⟩ (.bool false)).setCell ⟨r, 5, none⟩ (.slice (some ⟨w.heap.size, 0, none⟩) V.n V.n)).alloc (.cells (zB V.n) 4)) r w.heap.size V.n (V.begin t x) := by
  obtain ⟨y, hy⟩ : ∃ y, (((w.setCell ⟨r, 2, none⟩ (.int .i64 t)).setCell ⟨r, 3, none⟩ (.int .i64 x)).setCell ⟨r, 4, none⟩ (.bool false)).setCell ⟨r, 5, none⟩ (.slice (some ⟨w.heap.size, 0, none⟩) V.n V.n) = y := ⟨_, rfl⟩
  have hs : y.heap.size = w.heap.size := by rw [← hy]; simp [World.setCell]
  have hr : r < y.heap.size := by rw [hs]; exact H.rlt
  have cy : ∀ o, o ≠ 2 → o ≠ 3 → o ≠ 4 → o ≠ 5 → y.cell? ⟨r, o, none⟩ = w.cell? ⟨r, o, none⟩ := fun o h1 h2 h3 h4 => by
    rw [← hy, cs_other (addr_ne (Or.inr h4.symm)), cs_other (addr_ne (Or.inr h3.symm)), cs_other (addr_ne (Or.inr h2.symm)), cs_other (addr_ne (Or.inr h1.symm))]
  have fy : ∀ o, y.frozen? ⟨r, o, none⟩ = false := fun o => by rw [← hy, World.frozen?_setCell, World.frozen?_setCell, World.frozen?_setCell, World.frozen?_setCell]; exact H.frR o
  have y2 : y.cell? ⟨r, 2, none⟩ = some (.int .i64 t) := by rw [← hy, cs_other (addr_ne (Or.inr (by decide))), cs_other (addr_ne (Or.inr (by decide))), cs_other (addr_ne (Or.inr (by decide)))]; exact cs_same H.c2
  have y3 : y.cell? ⟨r, 3, none⟩ = some (.int .i64 x) := by rw [← hy, cs_other (addr_ne (Or.inr (by decide))), cs_other (addr_ne (Or.inr (by decide)))]; exact cs_same (by rw [cs_other (addr_ne (Or.inr (by decide)))]; exact H.c3)
  have y4 : y.cell? ⟨r, 4, none⟩ = some (.bool false) := by rw [← hy, cs_other (addr_ne (Or.inr (by decide)))]; exact cs_same (by rw [cs_other (addr_ne (Or.inr (by decide))), cs_other (addr_ne (Or.inr (by decide)))]; exact H.c4)
  have y5 : y.cell? ⟨r, 5, none⟩ = some (.slice (some ⟨w.heap.size, 0, none⟩) V.n V.n) := by rw [← hy]; exact cs_same (by rw [cs_other (addr_ne (Or.inr (by decide))), cs_other (addr_ne (Or.inr (by decide))), cs_other (addr_ne (Or.inr (by decide)))]; exact H.c5)
  rw [hy, ← hs]
  rw [← hs] at y5
  clear hy
  have ca : ∀ o, (y.alloc (.cells (zB V.n) 4)).cell? ⟨r, o, none⟩ = y.cell? ⟨r, o, none⟩ := fun o => World.cell?_alloc_old _ _ _ (by show r ≠ _; omega)
  have hn := heap_alloc_new y (.cells (zB V.n) 4)
  refine ⟨by omega, Nat.le_refl _, ?_, ?_, ?_, ?_, ?_, ?_, fun i hi => ?_, fun o => ?_, fun o => ?_⟩
  · rw [ca, cy 0 (by decide) (by decide) (by decide) (by decide)]; exact H.c0
  · rw [ca, cy 1 (by decide) (by decide) (by decide) (by decide)]; exact H.c1
  · rw [ca]; exact y2
  · rw [ca]; exact y3
  · rw [ca]; exact y4
  · rw [ca]; exact y5
  · exact (World.cell?_alloc_mark y (zB V.n) 4 (0, 0) i).trans (zB_at _ _ hi)
  · exact (World.frozen?_of_block (w := y) (a := ⟨r, o, none⟩) (Below.heap_alloc _ _ _ hr)).trans (fy o)
  · unfold World.frozen?; rw [hn]; simp

theorem upd_begin (w : World) (r : Nat) (a b c d : Value) (o : Obj) : Upd (One r) w.heap.size w (((((w.setCell ⟨r, 2, none⟩ a).setCell ⟨r, 3, none⟩ b).setCell ⟨r, 4, none⟩ c).setCell ⟨r, 5, none⟩ d).alloc o) :=
  (((((Upd.refl _ _ _).one _).one _).one _).one _).alloc (by simp [World.setCell]) _

set_option maxHeartbeats 400000 in
theorem rhear_any {r b cap : Nat} {V : Vt} {w : World} (H : IsR w r b cap V) (O : V.Ok) (t : Int) :
    Calls Try.prog 25 #[P0 r, .int .i64 t] w fun e w' => e = .returned (.bool (V.hears t)) ∧ HasR w' r b w.heap.size (V.hear t) ∧ Upd (One r) w.heap.size w w' := by
  have h0 := H.c0; have h2 := H.c2; have h3 := H.c3; have h4 := H.c4; have h5 := H.c5; have hf := H.frR
  have hr := H.rlt
  have HI := hide H
  have HB := hide (H.begin t (-1))
  have hmk := makeB V.n O.le
  have hne : r ≠ w.heap.size := by omega
  clear H O
  by_cases c : V.term < t
  · by_cases c1 : t ≤ 1099511627776
    · have e : V.hears t = true := by simp [Vt.hears, c, c1]
      rw [show V.hear t = V.begin t (-1) by rw [Vt.hear, if_pos e], e]
      go_enter Try.func25, Try.ntmps25
      go_wp2
      go_ret
      exact ⟨rfl, ⟨_, _, unhide HB, Or.inr (Nat.le_refl _)⟩, upd_begin _ _ _ _ _ _ _⟩
    · have e : V.hears t = false := by simp [Vt.hears]; omega
      rw [show V.hear t = V by rw [Vt.hear, e]; rfl, e]
      go_enter Try.func25, Try.ntmps25
      go_wp2
      go_ret
      exact ⟨rfl, ⟨_, _, unhide HI, Or.inl rfl⟩, Upd.refl _ _ _⟩
  · have e : V.hears t = false := by simp [Vt.hears]; omega
    rw [show V.hear t = V by rw [Vt.hear, e]; rfl, e]
    go_enter Try.func25, Try.ntmps25
    go_wp2
    go_ret
    exact ⟨rfl, ⟨_, _, unhide HI, Or.inl rfl⟩, Upd.refl _ _ _⟩

theorem IsR.stand {w : World} {r b cap : Nat} {V : Vt} {t : Int} (H : IsR w r b cap (V.begin t (-1))) (O : V.self < V.n) :
    IsR (((w.setCell ⟨r, 3, none⟩ (.int .i64 V.self)).setCell ⟨r, 4, none⟩ (.bool true)).setCell ⟨b, V.self, none⟩ (.bool true)) r b cap ((V.begin t V.self).setVt V.self true) := by
  have hn := H.ne
  have cr : ∀ o, o ≠ 3 → o ≠ 4 → (((w.setCell ⟨r, 3, none⟩ (.int .i64 V.self)).setCell ⟨r, 4, none⟩ (.bool true)).setCell ⟨b, V.self, none⟩ (.bool true)).cell? ⟨r, o, none⟩ = w.cell? ⟨r, o, none⟩ := fun o h1 h2 => by
    rw [cs_other (addr_ne (Or.inl hn.symm)), cs_other (addr_ne (Or.inr h2.symm)), cs_other (addr_ne (Or.inr h1.symm))]
  have cb : ∀ o, ((w.setCell ⟨r, 3, none⟩ (.int .i64 V.self)).setCell ⟨r, 4, none⟩ (.bool true)).cell? ⟨b, o, none⟩ = w.cell? ⟨b, o, none⟩ := fun o => by
    rw [cs_other (addr_ne (Or.inl hn)), cs_other (addr_ne (Or.inl hn))]
  refine ⟨hn, H.fit, (cr 0 (by decide) (by decide)).trans H.c0, (cr 1 (by decide) (by decide)).trans H.c1, (cr 2 (by decide) (by decide)).trans H.c2, ?_, ?_, (cr 5 (by decide) (by decide)).trans H.c5, fun i hi => ?_, fun o => ?_, fun o => ?_⟩
  · rw [cs_other (addr_ne (Or.inl hn.symm)), cs_other (addr_ne (Or.inr (by decide)))]; exact cs_same H.c3
  · rw [cs_other (addr_ne (Or.inl hn.symm))]
    show _ = some (Value.bool (if V.self = V.self then true else _))
    rw [if_pos rfl]
    exact cs_same (by rw [cs_other (addr_ne (Or.inr (by decide)))]; exact H.c4)
  · show _ = some (Value.bool (if i = V.self then true else false))
    by_cases c : i = V.self
    · subst c; rw [if_pos rfl]; exact cs_same ((cb _).trans (H.cv _ O))
    · rw [if_neg c, cs_other (addr_ne (Or.inr (Ne.symm c))), cb]; exact H.cv i hi
  · rw [World.frozen?_setCell, World.frozen?_setCell, World.frozen?_setCell]; exact H.frR o
  · rw [World.frozen?_setCell, World.frozen?_setCell, World.frozen?_setCell]; exact H.frB o

theorem Vt.hear_next {V : Vt} (ht : V.term < 1099511627776) : V.hear (V.term + 1) = V.begin (V.term + 1) (-1) := by
  rw [Vt.hear, if_pos]; simp only [Vt.hears, Bool.and_eq_true, decide_eq_true_eq]; omega

set_option maxHeartbeats 400000 in
/-- Hear of the next term: a new row of votes. -/
theorem rhear_new {r b cap : Nat} {V : Vt} {w : World} (H : IsR w r b cap V) (O : V.Ok) (ht : V.term < 1099511627776) :
    Calls Try.prog 25 #[P0 r, .int .i64 (V.term + 1)] w fun e w' => e = .returned (.bool true) ∧ (∃ cap', IsR w' r w.heap.size cap' (V.begin (V.term + 1) (-1))) ∧ Upd (One r) w.heap.size w w' := by
  have h0 := H.c0; have h2 := H.c2; have h3 := H.c3; have h4 := H.c4; have h5 := H.c5; have hf := H.frR
  have hr := H.rlt
  have HB := hide (H.begin (V.term + 1) (-1))
  have hmk := makeB V.n O.le
  have hne : r ≠ w.heap.size := by omega
  clear H O
  go_enter Try.func25, Try.ntmps25
  go_wp2
  go_ret
  exact ⟨rfl, ⟨_, unhide HB⟩, upd_begin _ _ _ _ _ _ _⟩

abbrev Two (r b : Nat) : Nat → Prop := fun k => k = r ∨ k = b

set_option maxHeartbeats 800000 in
theorem rstand_ok {r b cap : Nat} {V : Vt} {w : World} (H : IsR w r b cap V) (O : V.Ok) (ht : V.term < 1099511627776) :
    Calls Try.prog 27 #[P0 r] w fun e w' => e = .returned (.int .i64 0) ∧ HasR w' r b w.heap.size V.stand ∧ Upd (One r) w.heap.size w w' := by
  have h2 := H.c2
  have hme := O.me; have hle := O.le; have ht0 := O.t0
  have hz : (0 : Int) ≤ (V.self : Int) := by omega
  have hy : (V.self : Int) < V.n := by omega
  have hw : IntKind.i64.wrap (V.term + 1) = V.term + 1 := wrap_id (by omega) (by omega)
  have HG := hide (rhear_new H O ht)
  clear H O
  go_enter Try.func27, Try.ntmps27
  go_wp2_with fail
  refine (unhide HG).mono ?_
  rintro e w1 ⟨rfl, ⟨c', I1⟩, U1⟩
  have i1 : w1.cell? ⟨r, 1, none⟩ = some (.int .i64 V.self) := I1.c1
  have i3 := I1.c3; have i4 := I1.c4; have iR := I1.frR; have iB := I1.frB; have ine := I1.ne
  have i5 : w1.cell? ⟨r, 5, none⟩ = some (.slice (some ⟨w.heap.size, 0, none⟩) V.n c') := I1.c5
  have ifit : V.n ≤ c' := I1.fit
  have iv : w1.cell? ⟨w.heap.size, V.self, none⟩ = some (.bool false) := I1.cv V.self hme
  have HS := hide (I1.stand hme)
  have HU := hide U1
  clear I1 U1 HG h2
  go_wp2
  go_region
  all_goals
    go_wp2
    go_ret
    exact ⟨rfl, ⟨_, _, (unhide HS).keepB rfl rfl, Or.inr (Nat.le_refl _)⟩, (((((unhide HU).one _).one _).setCell (p := ⟨w.heap.size, V.self, none⟩) (Or.inr (Nat.le_refl _)) _)).drew⟩

set_option maxHeartbeats 400000 in
theorem rstand_long {r b cap : Nat} {V : Vt} {w : World} (H : IsR w r b cap V) (ht : V.term = 1099511627776) :
    Calls Try.prog 27 #[P0 r] w fun e w' => e = .returned (.int .i64 3) ∧ w = w' := by
  have h2 := H.c2; rw [ht] at h2
  clear H ht
  go_enter Try.func27, Try.ntmps27
  go_wp2
  go_ret
  exact ⟨rfl, rfl⟩

end Go.Proofs.Ytpadbbkklmgimaa
