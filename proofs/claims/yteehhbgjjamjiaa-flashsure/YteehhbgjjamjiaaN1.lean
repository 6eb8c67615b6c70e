/- told. -/
import Derived.Test.YteehhbgjjamjiaaN0
import Derived.Test.YteehhbgjjamjiaaM0
namespace Go.Proofs.Yteehhbgjjamjiaa
open Go.RowKit Go.Shelf
attribute [local go_sem] Oper.semAt_some

theorem upto_eq {α : Type} (f : Nat → α) {pre : List α} {x : α} {k : Nat} (h : pre ++ [x] = upto f k) : pre = upto f pre.length ∧ x = f pre.length := by
  have hk : k = pre.length + 1 := by have := congrArg List.length h; rw [upto_length] at this; simp at this; omega
  subst hk
  rw [upto_succ] at h
  have := List.append_inj h (by rw [upto_length])
  exact ⟨this.1, by simpa using this.2⟩

theorem part0 (w : World) (a b : Int) : (part 3 #[.int .i64 a, .int .i64 b] 0).run Try.prog w = .ok (.int .i64 a) w := by
  simp [part, go_sem]
theorem part1 (w : World) (a b : Int) : (part 3 #[.int .i64 a, .int .i64 b] 1).run Try.prog w = .ok (.int .i64 b) w := by
  simp [part, go_sem]
theorem equal_arr (d : Nat) (w : World) (a b c e : Int) : (Op.equalIn (d + 2) 53 (.agg #[.int .i64 a, .int .i64 b]) (.agg #[.int .i64 c, .int .i64 e])).run Try.prog w = .ok ((a == c) && (b == e)) w := by
  have h3 := fun (w : World) (x y : Int) => run_equalIn_int (P := Try.prog) w d 3 .i64 .i64 x y Try.underlying3
  rw [show d + 2 = (d + 1) + 1 from rfl, Op.equalIn]
  simp only [Sem.run_bind, run_underlying Try.underlying53, Result.andThen_ok, Try.sizeOf3, Std.Legacy.Range.forIn_eq_forIn_range', Std.Legacy.Range.size, Nat.sub_zero, Nat.add_one_sub_one, Nat.div_one, List.range', List.forIn_cons, List.forIn_nil, part0, h3, Nat.zero_add, Nat.one_mul, Nat.zero_mul]
  by_cases h1 : a = c <;> by_cases h2 : b = e <;> simp [part1, h3, h1, h2]
theorem neq_arr (w : World) (a b c e : Int) : (binOp .neq 53 (.agg #[.int .i64 a, .int .i64 b]) (.agg #[.int .i64 c, .int .i64 e])).run Try.prog w = .ok (.bool (!((a == c) && (b == e)))) w := by
  rw [run_neq_struct, show (10000 : Nat) = 9998 + 2 from rfl, equal_arr]
  rfl

set_option maxRecDepth 100000 in
set_option maxHeartbeats 2000000 in
theorem told_any (Bs len : Nat) (f g : Nat → Int) (sv : Value) (aw : Option Addr) (cw wb wo : Nat) (w : World) (hreach : len ≤ 140737488351232) (hc : w.cell? ⟨Bs, 0, none⟩ = some sv) (hI : Pairs w.heap.size w sv len f g)
    (_hcw : len ≤ cw) (haw : 0 < len → aw = some ⟨wb, wo, none⟩) (hw0 : ∀ j, j < len → w.cell? ⟨wb, wo + j * 2, none⟩ = some (.int .i64 (f j))) (hw1 : ∀ j, j < len → w.cell? ⟨wb, wo + j * 2 + 1, none⟩ = some (.int .i64 (g j))) :
    Calls Try.prog 17 #[.func (.func 45) #[] #[.pointer (some ⟨Bs, 0, none⟩)], .slice aw len cw] w fun e w' => e = .returned (.bool true) ∧ Below w.heap.size w w' := by
  have hna := neq_arr
  refine (callsIn_wide (n := 3)).1 ?_
  refine callsIn_of_wp_marks Try.func17 rfl trivial ?_ rfl
  simp only [Try.ntmps17, List.size_toArray, List.length_cons, List.length_nil, Nat.reduceAdd, Nat.reduceSub, Array.replicate_succ, Array.replicate_zero, List.push_toArray, List.append_toArray, List.nil_append, List.cons_append]
  gi_wp2
  obtain ⟨W0, hW0⟩ : ∃ W0, ((w.alloc (.cells #[.slice aw len cw] 44)).alloc (.cells #[.bool false] 4)).alloc (.cells #[.int .i64 0] 3) = W0 := ⟨_, rfl⟩
  have hsz : W0.heap.size = w.heap.size + 3 := by rw [← hW0]; simp
  have hB0 : Below w.heap.size w W0 := by rw [← hW0]; exact ((((Below.refl _ _).alloc (Nat.le_refl _) _).alloc (by simp) _).alloc (by simp; omega) _)
  have hc3 : W0.cell? ⟨w.heap.size, 0, none⟩ = some (.slice aw len cw) := by rw [← hW0]; simp [go_sem, World.cell?_alloc_old]
  have hc4 : W0.cell? ⟨w.heap.size + 1, 0, none⟩ = some (.bool false) ∧ W0.frozen? ⟨w.heap.size + 1, 0, none⟩ = false := by rw [← hW0]; constructor <;> simp [go_sem]
  have hc5 : W0.cell? ⟨w.heap.size + 2, 0, none⟩ = some (.int .i64 0) ∧ W0.frozen? ⟨w.heap.size + 2, 0, none⟩ = false := by rw [← hW0]; constructor <;> simp [go_sem]
  rw [hW0]
  clear hW0
  have hBs : Bs < w.heap.size := World.block_lt_of_cell? w _ hc
  refine wpIn_rangeFunc_ownF rfl (by decide) (gf := 45) (lb := #[.pointer (some ⟨Bs, 0, none⟩)]) rfl trivial (enters_of Try.func45 (by kernel_rfl) rfl)
    (all_stops Fence.wide 2 trivial rfl (by decide) Bs w.heap.size sv len f g hreach W0 (by omega) (by omega) ((hB0.cell (p := ⟨Bs, 0, none⟩) hBs).trans hc) (hI.below hB0)) belowK_t (belowK_b (by omega)) (Below.refl _ _) (fun _ => rfl)
    (fun pre W => (pre = upto (fun j => (f j, g j)) pre.length ∧ W.cell? ⟨w.heap.size, 0, none⟩ = some (.slice aw len cw) ∧ (W.cell? ⟨w.heap.size + 1, 0, none⟩ = some (.bool false) ∧ W.frozen? ⟨w.heap.size + 1, 0, none⟩ = false) ∧ W.cell? ⟨w.heap.size + 2, 0, none⟩ = some (.int .i64 pre.length) ∧ W.frozen? ⟨w.heap.size + 2, 0, none⟩ = false) ∧ Below w.heap.size w W)
    (fun _ pre _ => ¬ ∃ k, pre = upto (fun j => (f j, g j)) k)
    (OwnFrom.and (Own.from (fun s A B row hs hg hr => ⟨hs.1, cell_kept hs.2.1 hg hr, ⟨cell_kept hs.2.2.1.1 hg hr, (frozen_kept hs.2.2.1.1 hg hr).trans hs.2.2.1.2⟩, cell_kept hs.2.2.2.1 hg hr, (frozen_kept hs.2.2.2.1 hg hr).trans hs.2.2.2.2⟩) _) (ownFrom_below (Nat.le_refl _) (by omega)))
    (fun _ => ownFrom_pure _ _)
    ⟨⟨rfl, hc3, hc4, hc5.1, hc5.2⟩, hB0⟩
    (fun x => { tmps := #[.func (.func 45) #[] #[.pointer (some ⟨Bs, 0, none⟩)], .slice aw len cw, undef, .pointer (some ⟨w.heap.size, 0, none⟩), .pointer (some ⟨w.heap.size + 1, 0, none⟩), .pointer (some ⟨w.heap.size + 2, 0, none⟩), .int .i64 x.1, .int .i64 x.2, .func (.func 45) #[] #[.pointer (some ⟨Bs, 0, none⟩)], .int .i64 x.1, .int .i64 x.2, undef, undef, undef, undef, undef, undef, undef, undef, undef, undef, undef, undef, undef, undef, undef, undef, undef, undef, undef, undef], defers := [] }) ?assign ?body ?done ?stop
  case assign =>
    intro l x W K hK
    gi_wp2
    exact hK
  case body =>
    rintro l pre x W ⟨⟨hpre, d3, ⟨d4, d4f⟩, d5, d5f⟩, hB⟩ hlen
    obtain ⟨x1, x2⟩ := x
    obtain ⟨m, hm⟩ : ∃ m, pre.length = m := ⟨_, rfl⟩
    have HP := hide hpre
    have HM := hide hm
    rw [hm] at d5 hlen
    obtain rfl := haw (by omega)
    have hwb := World.block_lt_of_cell? w _ (hw0 m hlen)
    have e0 := (hB.cell (p := ⟨wb, wo + m * 2, none⟩) hwb).trans (hw0 m hlen)
    have e1 := (hB.cell (p := ⟨wb, wo + m * 2 + 1, none⟩) hwb).trans (hw1 m hlen)
    have HB := hide hB
    clear hpre hm hB hw0 hw1 haw hI hc hc3 hc4 hc5 hB0 hsz
    by_cases cx : x1 = f m
    · subst cx
      by_cases cy : x2 = g m
      · subst cy
        gi_wp2
        have hb2 : w.heap.size ≤ w.heap.size + 2 := by omega
        refine ⟨KeepsOthers.setCell _ _ _, (Below.refl _ W).setCell (p := ⟨w.heap.size + 2, 0, none⟩) hb2 _, ⟨?_, ?_, ⟨?_, ?_⟩, ?_, ?_⟩, (unhide HB).setCell (p := ⟨w.heap.size + 2, 0, none⟩) hb2 _⟩
        · rw [List.length_append, List.length_singleton, unhide HM, upto_succ, ← unhide HM, ← unhide HP]
        · rw [cs_other (addr_ne (Or.inl (by omega)))]; exact d3
        · rw [cs_other (addr_ne (Or.inl (by omega)))]; exact d4
        · rw [World.frozen?_setCell]; exact d4f
        · rw [cs_same d5, List.length_append, List.length_singleton, unhide HM]; rfl
        · rw [World.frozen?_setCell]; exact d5f
      · have hbq : (g m == x2) = false := by simp; exact fun c => cy c.symm
        gi_wp2
        refine ⟨KeepsOthers.setCell _ _ _, fun k hk => ?_⟩
        have := upto_eq _ hk
        rw [unhide HM] at this
        exact cy (congrArg Prod.snd this.2)
    · have hbq : (f m == x1) = false := by simp; exact fun c => cx c.symm
      gi_wp2
      refine ⟨KeepsOthers.setCell _ _ _, fun k hk => ?_⟩
      have := upto_eq _ hk
      rw [unhide HM] at this
      exact cx (congrArg Prod.fst this.2)
  case done =>
    rintro D ys W hD rfl ⟨⟨hpre, d3, ⟨d4, d4f⟩, d5, d5f⟩, hB⟩ hK
    rw [upto_length] at d5
    gi_wp2
    have hK' := (KeepsOthers.setCell W ⟨w.heap.size + 1, 0, none⟩ (.bool true)).same D _ hK rfl
    have hres : (W.setCell ⟨w.heap.size + 1, 0, none⟩ (.bool true)).cell? ⟨w.heap.size + 1, 0, none⟩ = some (.bool true) := cs_same d4
    refine ⟨by simp, .inl ⟨_, _, rfl, run_takeDeferred hK', ?_⟩⟩
    have hc5 := cell_kept hres (grownBy_putObj' _ D (.deferred none)) (fun r e => by cases e; exact ⟨_, hK', rfl⟩)
    refine ⟨.bool true, ?_, rfl, (hB.setCell (p := ⟨w.heap.size + 1, 0, none⟩) (by show w.heap.size ≤ w.heap.size + 1; omega) _).trans (belowK_b (w := w) (Nat.le_refl _) _ D _ _ (by omega) hK' rfl rfl)⟩
    simp [results, Try.results17, go_sem, hc5]
  case stop =>
    rintro D c pre W _ ⟨k, hk, rfl⟩ h _
    exact absurd ⟨k, rfl⟩ h
end Go.Proofs.Yteehhbgjjamjiaa
