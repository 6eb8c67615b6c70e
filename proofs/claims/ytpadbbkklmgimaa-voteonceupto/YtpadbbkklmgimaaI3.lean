/- tells. -/
import Derived.Test.YtpadbbkklmgimaaI2
import Derived.Test.YtpadbbkklmgimaaMem2
namespace Go.Proofs.Ytpadbbkklmgimaa
open Go.RowKit Go.Shelf
attribute [local go_sem] Oper.semAt_some

theorem uptoV_prefix (f : Nat → Bool) {k n : Nat} (h : k ≤ n) : uptoV f k <+: uptoV f n := by
  induction n with
  | zero => obtain rfl : k = 0 := by omega
            exact List.prefix_refl _
  | succ n ih =>
    by_cases c : k = n + 1
    · subst c; exact List.prefix_refl _
    · exact (ih (by omega)).trans (List.prefix_append _ _)
theorem prefix_get {l pre : List Int} {x : Int} (h : pre <+: l) (hl : pre.length < l.length) (hx : l.getD pre.length 0 = x) : (pre ++ [x]) <+: l := by
  obtain ⟨t, rfl⟩ := h
  cases t with
  | nil => simp at hl
  | cons y t => simp at hx; subst hx; exact ⟨t, by simp⟩
theorem prefix_last {l pre : List Int} {x : Int} (h : (pre ++ [x]) <+: l) : pre.length < l.length ∧ l.getD pre.length 0 = x := by
  obtain ⟨t, rfl⟩ := h
  simp

/-- The slice sv holds the numbers L. -/
def WantAt (w : World) (sv : Value) (L : List Int) : Prop := ∃ aw cw g, sv = .slice aw L.length cw ∧ L.length ≤ cw ∧ (0 < L.length → aw = some ⟨g, 0, none⟩) ∧ ∀ t, t < L.length → w.cell? ⟨g, t, none⟩ = some (.int .i64 (L.getD t 0))
theorem want_of_own {w : World} {base e : Nat} {v : Value} {L : List Int} (h : w.ownsRow base e 1 v L.length (ints .i64 L)) : WantAt w v L := by
  have h' := h
  rcases h.2 with ⟨rfl, hn⟩ | ⟨g, cap, cur, rfl, hb, hg, hnc, hcm, hcs, htake⟩
  · exact ⟨none, 0, 0, by rw [hn], by omega, fun h => by omega, fun t ht => by omega⟩
  · refine ⟨_, cap, g, rfl, hnc, fun _ => rfl, fun t ht => ?_⟩
    have := h'.cells (g := g) rfl t (.int .i64 (L.getD t 0)) (by simp [ints, List.getD, ht])
    have hadd : (⟨g, 0, none⟩ : Addr).add t = ⟨g, t, none⟩ := by unfold Addr.add; split <;> simp_all
    first | exact this | (rw [hadd] at this; exact this)
theorem WantAt.below {w w' : World} {sv : Value} {L : List Int} (h : WantAt w sv L) (hb : Below w.heap.size w w') : WantAt w' sv L := by
  obtain ⟨aw, cw, g, h1, h2, h3, h4⟩ := h
  exact ⟨aw, cw, g, h1, h2, h3, fun t ht => (hb.cell (p := ⟨g, t, none⟩) (World.block_lt_of_cell? w _ (h4 t ht))).trans (h4 t ht)⟩

set_option maxRecDepth 100000 in
set_option maxHeartbeats 2000000 in
theorem tells_any {w : World} {B : Nat} {V : Vt} (IV : IsV w B V) (hn5 : V.n ≤ 5) (sv : Value) (hs : WantAt w sv (uptoV V.vt V.n)) (st : Int) :
    Calls Try.prog 21 #[It B, sv, .int .i64 st] w fun e w' => e = .returned (.bool true) ∧ Below w.heap.size w w' := by
  obtain ⟨L, hL⟩ : ∃ L, uptoV V.vt V.n = L := ⟨_, rfl⟩
  have hll : L.length ≤ 5 := by rw [← hL]; exact Nat.le_trans (uptoV_le _ _) hn5
  rw [hL] at hs
  obtain ⟨aw, cw, g, rfl, hcw, haw, hcells⟩ := hs
  have hBl := IV.lt
  have HCe : Hid (∀ t, t < L.length → w.cell? ⟨g, t, none⟩ = some (.int .i64 (L.getD t 0))) := hcells
  clear hcells
  refine (callsIn_wide (n := 3)).1 ?_
  refine callsIn_of_wp_marks Try.func21 rfl trivial ?_ rfl
  simp only [Try.ntmps21, List.size_toArray, List.length_cons, List.length_nil, Nat.reduceAdd, Nat.reduceSub, Array.replicate_succ, Array.replicate_zero, List.push_toArray, List.append_toArray, List.nil_append, List.cons_append]
  gi_wp2
  obtain ⟨W0, hW0⟩ : ∃ W0, (((w.alloc (.cells #[.slice aw L.length cw] 70)).alloc (.cells #[.int .i64 st] 3)).alloc (.cells #[.bool false] 4)).alloc (.cells #[.int .i64 0] 3) = W0 := ⟨_, rfl⟩
  have hsz : W0.heap.size = w.heap.size + 4 := by rw [← hW0]; simp
  have hB0 : Below w.heap.size w W0 := by rw [← hW0]; exact (((((Below.refl _ _).alloc (Nat.le_refl _) _).alloc (by simp) _).alloc (by simp; omega) _).alloc (by simp; omega) _)
  have hc3 : W0.cell? ⟨w.heap.size, 0, none⟩ = some (.slice aw L.length cw) := by rw [← hW0]; simp [go_sem, World.cell?_alloc_old]
  have hc6 : W0.cell? ⟨w.heap.size + 1, 0, none⟩ = some (.int .i64 st) := by rw [← hW0]; simp [go_sem, World.cell?_alloc_old]
  have hc4 : W0.cell? ⟨w.heap.size + 2, 0, none⟩ = some (.bool false) ∧ W0.frozen? ⟨w.heap.size + 2, 0, none⟩ = false := by rw [← hW0]; constructor <;> simp [go_sem]
  have hc5 : W0.cell? ⟨w.heap.size + 3, 0, none⟩ = some (.int .i64 0) ∧ W0.frozen? ⟨w.heap.size + 3, 0, none⟩ = false := by rw [← hW0]; constructor <;> simp [go_sem]
  rw [hW0]
  clear hW0
  have IV0 := IV.below hB0
  refine wpIn_rangeFunc_ownF rfl (by decide) (gf := 34) (lb := #[.pointer (some ⟨B, 0, none⟩)]) rfl trivial (enters_of Try.func34 (by kernel_rfl) rfl)
    (votes_stops Fence.wide 2 trivial rfl (by decide) B V.n V.vt hn5 W0 (by omega) IV0.c0 IV0.cv) KB.trans (KB.putObj (by omega)) (Below.refl _ _) (fun _ => rfl)
    (fun pre W => (pre <+: L ∧ W.cell? ⟨w.heap.size, 0, none⟩ = some (.slice aw L.length cw) ∧ W.cell? ⟨w.heap.size + 1, 0, none⟩ = some (.int .i64 st) ∧ (W.cell? ⟨w.heap.size + 2, 0, none⟩ = some (.bool false) ∧ W.frozen? ⟨w.heap.size + 2, 0, none⟩ = false) ∧ W.cell? ⟨w.heap.size + 3, 0, none⟩ = some (.int .i64 pre.length) ∧ W.frozen? ⟨w.heap.size + 3, 0, none⟩ = false) ∧ Below w.heap.size w W)
    (fun c pre W => (¬ pre <+: L) ∨ (c = Code.ret ∧ W.cell? ⟨w.heap.size + 2, 0, none⟩ = some (.bool true) ∧ Below w.heap.size w W))
    (OwnFrom.and (Own.from (fun s A B row hs hg hr => ⟨hs.1, cell_kept hs.2.1 hg hr, cell_kept hs.2.2.1 hg hr, ⟨cell_kept hs.2.2.2.1.1 hg hr, (frozen_kept hs.2.2.2.1.1 hg hr).trans hs.2.2.2.1.2⟩, cell_kept hs.2.2.2.2.1 hg hr, (frozen_kept hs.2.2.2.2.1 hg hr).trans hs.2.2.2.2.2⟩) _) (ownFrom_below (Nat.le_refl _) (by omega)))
    (fun c => fun s A B row hs hg hr => hs.imp id fun ⟨e1, e2, e3⟩ => ⟨e1, cell_kept e2 hg (fun r e => (hr r e).2), (ownFrom_below (Nat.le_refl _) (by omega) : OwnFrom W0.heap.size (fun (_ : List Int) W => Below w.heap.size w W)) s A B row e3 hg hr⟩)
    ⟨⟨List.nil_prefix, hc3, hc6, hc4, hc5.1, hc5.2⟩, hB0⟩
    (fun x => { tmps := #[It B, .slice aw L.length cw, .int .i64 st, undef, .pointer (some ⟨w.heap.size, 0, none⟩), .pointer (some ⟨w.heap.size + 1, 0, none⟩), .pointer (some ⟨w.heap.size + 2, 0, none⟩), .pointer (some ⟨w.heap.size + 3, 0, none⟩), .int .i64 x, It B, .int .i64 x, undef, undef, undef, undef, undef, undef, undef, undef, undef, undef, undef, undef, undef, undef, undef, undef, undef, undef, undef, undef, undef], defers := [] }) ?assign ?body ?done ?stop
  case assign =>
    intro l x W K hK
    gi_wp2
    exact hK
  case body =>
    rintro l pre x W ⟨⟨hpre, d3, d6, ⟨d4, d4f⟩, d5, d5f⟩, hB⟩ hlen
    obtain ⟨m, hm⟩ : ∃ m, pre.length = m := ⟨_, rfl⟩
    have HP := hide hpre
    have HM := hide hm
    rw [hm] at d5
    have HB := hide hB
    have hmn : m ≤ 5 := by have := hpre.length_le; omega
    clear hpre hm hB hc3 hc4 hc5 hc6 hB0 hsz IV IV0 hlen
    by_cases cl : m < L.length
    · have hm0 : (0 : Int) ≤ (m : Int) := by omega
      have hml : (m : Int) < L.length := by omega
      obtain rfl := haw (by omega)
      have hc0 := unhide HCe m cl
      have hcx := ((unhide HB).cell (p := ⟨g, m, none⟩) (World.block_lt_of_cell? w _ hc0)).trans hc0
      clear hc0
      have HBl := hide hBl
      obtain ⟨z, hz⟩ : ∃ z, L.getD m 0 = z := ⟨_, rfl⟩
      rw [hz] at hcx
      by_cases cx : z = x
      · subst cx
        have HPR : Hid ((pre ++ [z]) <+: L) := prefix_get (unhide HP) (by rw [unhide HM]; exact cl) (by rw [unhide HM]; exact hz)
        clear hz
        by_cases cs : ((m : Int) + 1) = st
        · subst cs
          gi_wp2
          refine ⟨(KeepsOthers.setCell _ _ _).trans (KeepsOthers.setCell _ _ _), Or.inr ⟨rfl, cs_same (by rw [cs_other (addr_ne (Or.inl (by omega)))]; exact d4), ((unhide HB).setCell (p := ⟨w.heap.size + 3, 0, none⟩) (by show w.heap.size ≤ w.heap.size + 3; omega) _).setCell (p := ⟨w.heap.size + 2, 0, none⟩) (by show w.heap.size ≤ w.heap.size + 2; omega) _⟩⟩
        · gi_wp2
          have hb3 : w.heap.size ≤ w.heap.size + 3 := by omega
          refine ⟨KeepsOthers.setCell _ _ _, ⟨Below.heap_setCell _ _ _ _ (by have := unhide HBl; simp; omega)⟩, ⟨unhide HPR, ?_, ?_, ⟨?_, ?_⟩, ?_, ?_⟩, (unhide HB).setCell (p := ⟨w.heap.size + 3, 0, none⟩) hb3 _⟩
          · rw [cs_other (addr_ne (Or.inl (by omega)))]; exact d3
          · rw [cs_other (addr_ne (Or.inl (by omega)))]; exact d6
          · rw [cs_other (addr_ne (Or.inl (by omega)))]; exact d4
          · rw [World.frozen?_setCell]; exact d4f
          · rw [cs_same d5, List.length_append, List.length_singleton, unhide HM]; rfl
          · rw [World.frozen?_setCell]; exact d5f
      · have hbq : (x != z) = true := by simp; exact fun c => cx c.symm
        have HZ := hide hz
        clear hz
        gi_wp2
        refine ⟨KeepsOthers.setCell _ _ _, Or.inl fun hp => ?_⟩
        have := (prefix_last hp).2
        rw [unhide HM] at this
        exact cx ((unhide HZ).symm.trans this)
    · have hml : (L.length : Int) ≤ (m : Int) := by omega
      gi_wp2
      refine ⟨KeepsOthers.setCell _ _ _, Or.inl fun hp => ?_⟩
      have := (prefix_last hp).1
      rw [unhide HM] at this
      exact cl this
  case done =>
    rintro D ys W hD rfl ⟨⟨hpre, d3, d6, ⟨d4, d4f⟩, d5, d5f⟩, hB⟩ hK
    rw [hL] at d5
    gi_wp2
    have hK' := (KeepsOthers.setCell W ⟨w.heap.size + 2, 0, none⟩ (.bool true)).same D _ hK rfl
    have hres : (W.setCell ⟨w.heap.size + 2, 0, none⟩ (.bool true)).cell? ⟨w.heap.size + 2, 0, none⟩ = some (.bool true) := cs_same d4
    refine ⟨by simp, .inl ⟨_, _, rfl, run_takeDeferred hK', ?_⟩⟩
    have hc5 := cell_kept hres (grownBy_putObj' _ D (.deferred none)) (fun r e => by cases e; exact ⟨_, hK', rfl⟩)
    refine ⟨.bool true, ?_, rfl, (hB.setCell (p := ⟨w.heap.size + 2, 0, none⟩) (by show w.heap.size ≤ w.heap.size + 2; omega) _).trans (belowK_b (w := w) (Nat.le_refl _) _ D _ _ (by omega) hK' rfl rfl)⟩
    simp [results, Try.results21, go_sem, hc5]
  case stop =>
    rintro D c pre W hD ⟨k, hk, hfk, rfl⟩ h hK
    rcases h with h | ⟨rfl, e2, hB⟩
    · exact absurd (by rw [← hL]; exact uptoV_prefix V.vt hk) h
    · gi_wp2
      refine ⟨by simp, .inl ⟨_, _, rfl, run_takeDeferred hK, ?_⟩⟩
      have hc5 := cell_kept e2 (grownBy_putObj' _ D (.deferred none)) (fun r e => by cases e; exact ⟨_, hK, rfl⟩)
      refine ⟨.bool true, ?_, rfl, hB.trans (belowK_b (w := w) (Nat.le_refl _) _ D _ _ (by omega) hK rfl rfl)⟩
      simp [results, Try.results21, go_sem, hc5]
end Go.Proofs.Ytpadbbkklmgimaa
