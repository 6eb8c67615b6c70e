/- Lagging, and told. -/
import Derived.Test.YtgehhoddmmjmjaaLH
namespace Go.Proofs.Ytgehhoddmmjmjaa
open Go.RowKit Go.Shelf
attribute [local go_sem] Oper.semAt_some

/-- A book of nothing. -/
def Bk.zero : Bk := ⟨0, 0, fun _ => 0, fun _ => 0⟩
/-- What no call made, all of it: nil, or a struct of nothing. -/
def IsZero (w : World) (v : Value) : Prop := v = .pointer none ∨ ∃ h, v = P0 h ∧ IsB w h Bk.zero
theorem IsZero.no {w : World} {v : Value} (h : IsZero w v) : IsNo w v := h.imp id fun ⟨k, e, H⟩ => ⟨k, e, H.c0⟩
theorem IsZero.below {w w' : World} {v : Value} (h : IsZero w v) (hb : Below w.heap.size w w') : IsZero w' v := h.imp id fun ⟨k, e, H⟩ => ⟨k, e, H.below hb⟩

/-- What Lagging hands back: an iterator over a copy. -/
abbrev It (b : Nat) : Value := .func (.func 36) #[] #[.pointer (some ⟨b, 0, none⟩)]

set_option maxHeartbeats 400000 in
theorem lagging_any {h : Nat} {B : Bk} {w : World} (H : IsB w h B) :
    Calls Try.prog 21 #[P0 h] w fun e w' => e = .returned (It w.heap.size) ∧ IsB w' w.heap.size B ∧ Below w.heap.size w w' := by
  have h0 := H.c0; have h1 := H.c1
  have v0 := H.cn 0 (by decide); have v1 := H.cn 1 (by decide); have v2 := H.cn 2 (by decide); have v3 := H.cn 3 (by decide); have v4 := H.cn 4 (by decide)
  have u0 := H.cl 0 (by decide); have u1 := H.cl 1 (by decide); have u2 := H.cl 2 (by decide); have u3 := H.cl 3 (by decide); have u4 := H.cl 4 (by decide)
  have hlt := H.lt
  clear H
  go_enter Try.func21, Try.ntmps21
  go_wp2
  go_ret
  exact ⟨rfl, isB_new w _ B rfl rfl, (Below.refl _ _).alloc (Nat.le_refl _) _⟩

set_option maxHeartbeats 400000 in
theorem lagging_no {v : Value} {w : World} (H : IsZero w v) :
    Calls Try.prog 21 #[v] w fun e w' => e = .returned (It w.heap.size) ∧ IsB w' w.heap.size Bk.zero ∧ Below w.heap.size w w' := by
  rcases H with rfl | ⟨h, rfl, H⟩
  · go_enter Try.func21, Try.ntmps21
    go_wp2
    go_ret
    exact ⟨rfl, isB_new w _ Bk.zero rfl rfl, (Below.refl _ _).alloc (Nat.le_refl _) _⟩
  · exact lagging_any H

/-- The slice sv holds the numbers L. -/
def WantN (w : World) (sv : Value) (L : List Nat) : Prop := ∃ aw cw g, sv = .slice aw L.length cw ∧ L.length ≤ cw ∧ (0 < L.length → aw = some ⟨g, 0, none⟩) ∧ ∀ t, t < L.length → w.cell? ⟨g, t, none⟩ = some (.int .i64 ((L.getD t 0 : Nat) : Int))
theorem WantN.below {w w' : World} {sv : Value} {L : List Nat} (h : WantN w sv L) (hb : Below w.heap.size w w') : WantN w' sv L := by
  obtain ⟨aw, cw, g, h1, h2, h3, h4⟩ := h
  exact ⟨aw, cw, g, h1, h2, h3, fun t ht => (hb.cell (p := ⟨g, t, none⟩) (World.block_lt_of_cell? w _ (h4 t ht))).trans (h4 t ht)⟩
theorem prefix_lastN {l pre : List Nat} {x : Nat} (h : (pre ++ [x]) <+: l) : pre.length < l.length ∧ l.getD pre.length 0 = x := by
  obtain ⟨t, rfl⟩ := h
  simp
theorem othU_len (s k : Nat) : (othU s k).length ≤ k := by
  induction k with
  | zero => exact Nat.le_refl _
  | succ k ih => rw [othU, List.length_append]; split <;> simp <;> omega
theorem lags_len (B : Bk) : (lags B).length ≤ B.n := Nat.le_trans (List.length_filter_le _ _) (othU_len _ _)

set_option maxRecDepth 100000 in
set_option maxHeartbeats 2000000 in
theorem saw_any {w : World} {b : Nat} {B : Bk} (IB : IsB w b B) (h5 : B.n ≤ 5) (hO : 0 < B.n → B.Ok) (sv : Value) (hs : WantN w sv (lags B)) :
    Calls Try.prog 20 #[It b, sv] w fun e w' => e = .returned (.bool true) ∧ Below w.heap.size w w' := by
  have hll := Nat.le_trans (lags_len B) h5
  obtain ⟨L, hL⟩ : ∃ L, lags B = L := ⟨_, rfl⟩
  rw [hL] at hs hll
  obtain ⟨aw, cw, g, rfl, hcw, haw, hcells⟩ := hs
  have hBl := IB.lt
  have HCe : Hid (∀ t, t < L.length → w.cell? ⟨g, t, none⟩ = some (.int .i64 ((L.getD t 0 : Nat) : Int))) := hcells
  clear hcells
  refine (callsIn_wide (n := 3)).1 ?_
  refine callsIn_of_wp_marks Try.func20 rfl trivial ?_ rfl
  simp only [Try.ntmps20, List.size_toArray, List.length_cons, List.length_nil, Nat.reduceAdd, Nat.reduceSub, Array.replicate_succ, Array.replicate_zero, List.push_toArray, List.append_toArray, List.nil_append, List.cons_append]
  gi_wp2
  obtain ⟨W0, hW0⟩ : ∃ W0, ((w.alloc (.cells #[.slice aw L.length cw] 63)).alloc (.cells #[.bool false] 4)).alloc (.cells #[.int .i64 0] 3) = W0 := ⟨_, rfl⟩
  have hsz : W0.heap.size = w.heap.size + 3 := by rw [← hW0]; simp
  have hB0 : Below w.heap.size w W0 := by rw [← hW0]; exact (((Below.refl _ _).alloc (Nat.le_refl _) _).alloc (by simp) _).alloc (by simp; omega) _
  have hc3 : W0.cell? ⟨w.heap.size, 0, none⟩ = some (.slice aw L.length cw) := by rw [← hW0]; simp [go_sem, World.cell?_alloc_old]
  have hc4 : W0.cell? ⟨w.heap.size + 1, 0, none⟩ = some (.bool false) ∧ W0.frozen? ⟨w.heap.size + 1, 0, none⟩ = false := by rw [← hW0]; constructor <;> simp [go_sem]
  have hc5 : W0.cell? ⟨w.heap.size + 2, 0, none⟩ = some (.int .i64 0) ∧ W0.frozen? ⟨w.heap.size + 2, 0, none⟩ = false := by rw [← hW0]; constructor <;> simp [go_sem]
  rw [hW0]
  clear hW0
  have IB0 := IB.below hB0
  refine wpIn_range_deep rfl (by decide) (gf := 36) (lb := #[.pointer (some ⟨b, 0, none⟩)]) rfl trivial (enters_of Try.func36 (by kernel_rfl) rfl)
    (lag_deep (3 - 1) b (by decide) B h5 hO W0 IB0) (fun k hk => by subst hk; omega) (Below.refl _ _) (fun _ => rfl)
    (fun pre W => (W.cell? ⟨w.heap.size, 0, none⟩ = some (.slice aw L.length cw) ∧ (W.cell? ⟨w.heap.size + 1, 0, none⟩ = some (.bool false) ∧ W.frozen? ⟨w.heap.size + 1, 0, none⟩ = false) ∧ W.cell? ⟨w.heap.size + 2, 0, none⟩ = some (.int .i64 pre.length) ∧ W.frozen? ⟨w.heap.size + 2, 0, none⟩ = false) ∧ Below w.heap.size w W)
    (OwnFrom.and (Own.from (fun s A B row hs hg hr => ⟨cell_kept hs.1 hg hr, ⟨cell_kept hs.2.1.1 hg hr, (frozen_kept hs.2.1.1 hg hr).trans hs.2.1.2⟩, cell_kept hs.2.2.1 hg hr, (frozen_kept hs.2.2.1 hg hr).trans hs.2.2.2⟩) _) (ownFrom_below (Nat.le_refl _) (by omega)))
    ⟨⟨hc3, hc4, hc5.1, hc5.2⟩, hB0⟩
    (fun _ W => W)
    (fun x _ => { tmps := #[It b, .slice aw L.length cw, undef, .pointer (some ⟨w.heap.size, 0, none⟩), .pointer (some ⟨w.heap.size + 1, 0, none⟩), .pointer (some ⟨w.heap.size + 2, 0, none⟩), .int .i64 x, It b, .int .i64 x, undef, undef, undef, undef, undef, undef, undef, undef, undef, undef, undef, undef, undef, undef, undef, undef, undef, undef], defers := [] })
    (fun _ _ pre W => (W.cell? ⟨w.heap.size, 0, none⟩ = some (.slice aw L.length cw) ∧ (W.cell? ⟨w.heap.size + 1, 0, none⟩ = some (.bool false) ∧ W.frozen? ⟨w.heap.size + 1, 0, none⟩ = false) ∧ W.cell? ⟨w.heap.size + 2, 0, none⟩ = some (.int .i64 pre.length) ∧ W.frozen? ⟨w.heap.size + 2, 0, none⟩ = false) ∧ Below w.heap.size w W)
    (fun _ _ => OwnFrom.and (Own.from (fun s A B row hs hg hr => ⟨cell_kept hs.1 hg hr, ⟨cell_kept hs.2.1.1 hg hr, (frozen_kept hs.2.1.1 hg hr).trans hs.2.1.2⟩, cell_kept hs.2.2.1 hg hr, (frozen_kept hs.2.2.1 hg hr).trans hs.2.2.2⟩) _) (ownFrom_below (Nat.le_refl _) (by omega)))
    (fun _ _ => Below.refl _ _)
    ?assign ?hA ?body ?done
  case assign =>
    intro l x W K hK
    gi_wp2
    simpa using hK
  case hA =>
    intro pre x W h _ _
    exact h
  case body =>
    rintro l pre x q W ⟨⟨d3, ⟨d4, d4f⟩, d5, d5f⟩, hB⟩ hOk
    rw [hL] at hOk
    obtain ⟨hlt, hget⟩ := prefix_lastN hOk
    obtain ⟨m, hm⟩ : ∃ m, pre.length = m := ⟨_, rfl⟩
    rw [hm] at hlt hget d5
    have HM := hide hm
    have HB := hide hB
    have hm0 : (0 : Int) ≤ (m : Int) := by omega
    have hml : (m : Int) < L.length := by omega
    have hm5 : m ≤ 5 := by omega
    obtain rfl := haw (by omega)
    have hc0 := unhide HCe m hlt
    rw [hget] at hc0
    have hcx := (hB.cell (p := ⟨g, m, none⟩) (World.block_lt_of_cell? w _ hc0)).trans hc0
    clear hm hB hc0 hget hc3 hc4 hc5 hB0 IB IB0 hOk
    gi_wp2
    have hb2 : w.heap.size ≤ w.heap.size + 2 := by omega
    refine ⟨(KeepsOthers.setCell _ _ _).from _, Kd.set (by show w.heap.size + 2 ≠ b; omega) (by show w.heap.size + 2 < _; omega) _, ⟨?_, ⟨?_, ?_⟩, ?_, ?_⟩, (unhide HB).setCell (p := ⟨w.heap.size + 2, 0, none⟩) hb2 _⟩
    · rw [cs_other (addr_ne (Or.inl (by omega)))]; exact d3
    · rw [cs_other (addr_ne (Or.inl (by omega)))]; exact d4
    · rw [World.frozen?_setCell]; exact d4f
    · rw [cs_same d5, unhide HM]
    · rw [World.frozen?_setCell]; exact d5f
  case done =>
    rintro D ys W hD rfl ⟨⟨d3, ⟨d4, d4f⟩, d5, d5f⟩, hB⟩ hK
    rw [hL] at d5
    gi_wp2
    have hK' := (KeepsOthers.setCell W ⟨w.heap.size + 1, 0, none⟩ (.bool true)).same D _ hK rfl
    have hres : (W.setCell ⟨w.heap.size + 1, 0, none⟩ (.bool true)).cell? ⟨w.heap.size + 1, 0, none⟩ = some (.bool true) := cs_same d4
    refine ⟨by simp, .inl ⟨_, _, rfl, run_takeDeferred hK', ?_⟩⟩
    have hc5 := cell_kept hres (grownBy_putObj' _ D (.deferred none)) (fun r e => by cases e; exact ⟨_, hK', rfl⟩)
    refine ⟨.bool true, ?_, rfl, (hB.setCell (p := ⟨w.heap.size + 1, 0, none⟩) (by show w.heap.size ≤ w.heap.size + 1; omega) _).trans (belowK_b (w := w) (Nat.le_refl _) _ D _ _ (by omega) hK' rfl rfl)⟩
    simp [results, Try.results20, go_sem, hc5]
end Go.Proofs.Ytgehhoddmmjmjaa
