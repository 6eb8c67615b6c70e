/- Contracts of Nums and of slices.Equal. -/
import Derived.Test.YthdghnppledakaaWC
import Derived.Test.YthdghnppledakaaWD
namespace Go.Proofs.Ythdghnppledakaa
open Go.RowKit

theorem Sees.drop {w : World} {k : IntKind} {ao : Option Addr} {cap : Nat} {zs : List Int} (h : Sees w k (.slice ao zs.length cap) zs) (p : Nat) (hp : p ≤ zs.length) :
    Sees w k (.slice (if cap = p then ao else ao.map (·.add p)) (zs.length - p) (cap - p)) (zs.drop p) := by
  have := (h.upto.cut p (zs.length - p) (by omega)).sees
  rwa [List.take_of_length_le (by rw [List.length_drop]; omega)] at this

set_option maxHeartbeats 400000 in
theorem numsClosure (R : Nat) (c : Addr) (n : Int) (t : List Int × Nat × Int) (v : Value) (base : Nat) (w : World) (hc : w.cell? c = some (.int .i64 n))
    (hn : Calls Try.prog 41 #[.pointer (some ⟨R, 0, none⟩), .int .i64 n] w fun e w' => ReadsN R v 0 base w t e w') :
    Calls Try.prog 40 #[.pointer (some ⟨R, 0, none⟩), .pointer (some c)] w fun e w' => ReadsN R v 0 base w t e w' := by
  by_cases he : t.2.2 = 0
  · have HN := hide (hn.mono fun e w' (h : ReadsN R v 0 base w t e w') => And.intro h.1 (h.2.1 he))
    clear hn
    go_enter Try.func40, Try.ntmps40
    go_wp2_with (go_at_call 41; refine (unhide HN).mono ?_; rintro e w1 ⟨hb, x, rfl, h2, h3⟩)
    go_ret
    exact ⟨hb, fun _ => ⟨x, rfl, h2, h3⟩, fun h => absurd he h⟩
  · have HN := hide (hn.mono fun e w' (h : ReadsN R v 0 base w t e w') => And.intro h.1 (h.2.2 he))
    clear hn
    go_enter Try.func40, Try.ntmps40
    go_wp2_with fail
    refine (unhide HN).mono ?_
    rintro e w1 ⟨hb, rfl⟩
    exact ⟨rfl, hb, fun h => absurd h he, fun _ => rfl⟩

/-- take of the numbers' closure. -/
theorem take39_any (c : Addr) (ao : Option Addr) (cap : Nat) (zs : List Int) (n : Int) (w : World) (hs : Sees w .u8 (.slice ao zs.length cap) zs) (hby : Byt zs) (hm : zs.length ≤ 1099511627776) (hn1 : n ≤ 9223372036854775807)
    (hc : w.cell? c = some (.int .i64 n)) :
    Calls Try.prog 39 #[.slice ao zs.length cap, .func (Fn.func 40) #[] #[.pointer (some c)]] w fun e w' => ∃ x, e = .returned (.tuple #[x, .int .i64 (nrun zs n.toNat).2.1, .int .i64 (nrun zs n.toNat).2.2]) ∧ Below w.heap.size w w' ∧ w'.ownsRow w.heap.size 2 1 x (nrun zs n.toNat).1.length (ints .i64 (nrun zs n.toNat).1) := by
  have hst := tw_sees hs
  have hnum := numbersR_any (w.heap.size + 1) _ zs 0 n (tw w (.slice ao zs.length cap)) (tw_at w _) hst hby hm (Nat.zero_le _) hn1
  rw [List.drop_zero, tw_size] at hnum
  have hcc := numsClosure (w.heap.size + 1) c n _ _ _ _ (((tw_below w (.slice ao zs.length cap)).cell (World.block_lt_of_cell? w c hc)).trans hc) hnum
  have hle := nrun_le zs n.toNat
  generalize nrun zs n.toNat = t at *
  by_cases he : t.2.2 = 0
  · refine (take39_40_ok c ao zs.length cap t.2.1 w (fun x w' => w'.ownsRow (w.heap.size + 2) 2 1 x t.1.length (ints .i64 t.1)) (fun _ _ _ h => h) (fun _ _ _ h => ownsRow_setCell_below h (by show w.heap.size < _; omega) _) (fun _ _ _ h => h.alloc _) (hcc.mono ?_)).mono ?_
    · rintro e w' ⟨h1, h2, _⟩
      obtain ⟨x, h3, h4, h5⟩ := h2 he
      rw [Nat.zero_add] at h4
      exact ⟨x, h3, h4, h1, h5⟩
    · rintro e w' ⟨x, rfl, hb, ho⟩
      exact ⟨x, by rw [he], hb, own_mono ho (by omega)⟩
  · refine (take39_40_no c ao zs.length cap t.2.2 w (hcc.mono ?_)).mono ?_
    · rintro e w' ⟨h1, _, h3⟩
      exact ⟨h3 he, h1⟩
    · rintro e w' ⟨rfl, hb⟩
      obtain ⟨e1, e2⟩ := hle.2.2 he
      rw [e1, e2]
      exact ⟨_, rfl, hb, World.ownsRow_nil _ _ _ _⟩

set_option maxHeartbeats 800000 in
/-- Nums. -/
theorem nums_any (bv : Value) (zs : List Int) (n : Int) (w : World) (hs : Sees w .u8 bv zs) (hby : Byt zs) (hm : zs.length ≤ 1099511627776) (hn1 : n ≤ 9223372036854775807) :
    Calls Try.prog 18 #[bv, .int .i64 n] w fun e w' => ∃ x y, e = .returned (.tuple #[x, y, .int .i64 (nrun zs n.toNat).2.2]) ∧ Sees w' .i64 x (nrun zs n.toNat).1 ∧ Sees w' .u8 y (zs.drop (nrun zs n.toNat).2.1) ∧ Below w.heap.size w w' := by
  obtain ⟨ao, cap, rfl, hlc, hnil, hc⟩ := hs
  have hs : Sees w .u8 (.slice ao zs.length cap) zs := ⟨ao, cap, rfl, hlc, hnil, hc⟩
  have hb0 : Below w.heap.size w (w.alloc (.cells #[.int .i64 n] 3)) := (Below.refl _ _).alloc (Nat.le_refl _) _
  have HT := hide (take39_any ⟨w.heap.size, 0, none⟩ ao cap zs n (w.alloc (.cells #[.int .i64 n] 3)) (hs.below hb0) hby hm hn1 (cell_of_one (heap_alloc_new w _)))
  have hmf : ∀ (fn : Fn) (first cap : Array Value) (w : World), (Instr.makeFunc fn first cap).run Try.prog w = .ok (.func fn first cap) w := fun _ _ _ _ => rfl
  have hkl := (nrun_le zs n.toNat).1
  clear hc hnil
  generalize nrun zs n.toNat = t at *
  obtain ⟨l, k, er⟩ := t
  dsimp only at hkl
  have hrest := fun w' (h : Below w.heap.size w w') => (hs.below h).drop k hkl
  have HR := hide hrest
  clear hrest hs
  by_cases hck : cap = k
  · subst hck
    have hnil : zs.drop cap = [] := List.drop_of_length_le (by omega)
    rw [hnil]
    clear HR
    go_enter Try.func18, Try.ntmps18
    go_wp2_with (go_at_call 39; refine (unhide HT).mono ?_; rintro e w1 ⟨x, rfl, hb1, ho1⟩)
    have hs0 : Sees w1 .u8 (.slice ao 0 0) [] := ⟨ao, 0, rfl, Nat.le_refl _, fun _ => rfl, fun a _ t ht => by simp at ht⟩
    refine (copied_int (.slice ao 0 0) [] 0 w1 hs0 (by omega) (by simp)).mono ?_
    rintro e w2 ⟨y, rfl, hy, hb2⟩
    simp only [World.size_alloc] at hb1 ho1
    have hbw1 : Below w.heap.size w w1 := hb0.trans (hb1.mono (by omega))
    have hxs := (sees_of_own ho1).2.below hb2
    go_wp2
    go_ret3
    exact ⟨x, y, rfl, hxs, (sees_of_own hy).2, hbw1.trans (hb2.mono hbw1.size)⟩
  · rw [if_neg hck] at HR
    go_enter Try.func18, Try.ntmps18
    go_wp2_with (go_at_call 39; refine (unhide HT).mono ?_; rintro e w1 ⟨x, rfl, hb1, ho1⟩)
    simp only [World.size_alloc] at hb1 ho1
    have hbw1 : Below w.heap.size w w1 := hb0.trans (hb1.mono (by omega))
    refine (copied_int _ (zs.drop k) 0 w1 (unhide HR w1 hbw1) (by omega) (by rw [List.length_drop]; omega)).mono ?_
    rintro e w2 ⟨y, rfl, hy, hb2⟩
    have hxs := (sees_of_own ho1).2.below hb2
    go_wp2
    go_ret3
    exact ⟨x, y, rfl, hxs, (sees_of_own hy).2, hbw1.trans (hb2.mono hbw1.size)⟩

set_option maxHeartbeats 800000 in
theorem sliceEq_some (a b : Addr) (ca cb : Nat) (xs : List Int) (w : World) (hm : xs.length ≤ 140737488351232) (ha : ∀ t, t < xs.length → w.cell? (a.add t) = some (.int .i64 (xs.getD t 0))) (hb : ∀ t, t < xs.length → w.cell? (b.add t) = some (.int .i64 (xs.getD t 0))) :
    Calls Try.prog 22 #[.slice (some a) xs.length ca, .slice (some b) xs.length cb] w fun e w' => e = .returned (.bool true) ∧ ∃ j, w' = w.drewN j := by
  have hne : ((xs.length : Int) != (xs.length : Int)) = false := by simp
  go_enter Try.func22, Try.ntmps22
  go_wp2
  go_loopw [13] (fun vi wr => ∃ (j i : Nat), j ≤ xs.length ∧ vi = .int .i64 j ∧ wr = w.drewN i) (fun vi _ => xs.length - (intOf vi).toNat)
  case atStart => exact ⟨0, 0, Nat.zero_le _, rfl, rfl⟩
  case round =>
    obtain ⟨j, i, hj, rfl, rfl⟩ := hrel
    by_cases hlt : j < xs.length
    · have h1 := ha j hlt
      have h2 := hb j hlt
      have hl2 : (j : Int) < (xs.length : Int) := by omega
      clear ha hb
      generalize xs.getD j 0 = x at *
      go_wp2
      go_quiet (fail)
      go_wp2
      go_roundw
      case rel => exact ⟨j + 1, i + nq, by omega, by go_num, rfl⟩
      case measure => simp [intOf]; omega
    · go_wp2
      go_ret
      exact ⟨rfl, i, rfl⟩

set_option maxHeartbeats 400000 in
theorem sliceEq_empty (ao bo : Option Addr) (ca cb : Nat) (w : World) :
    Calls Try.prog 22 #[.slice ao 0 ca, .slice bo 0 cb] w fun e w' => e = .returned (.bool true) ∧ w = w' := by
  go_enter Try.func22, Try.ntmps22
  go_wp2
  refine wp_loop_rounds 1 ?_
  rw [rounds_succ]
  go_wp2
  go_ret
  exact ⟨rfl, rfl⟩

/-- slices.Equal of the same numbers. -/
theorem sliceEq_same (av bv : Value) (xs : List Int) (w : World) (ha : Sees w .i64 av xs) (hb : Sees w .i64 bv xs) (hm : xs.length ≤ 140737488351232) :
    Calls Try.prog 22 #[av, bv] w fun e w' => e = .returned (.bool true) ∧ ∃ j, w' = w.drewN j := by
  obtain ⟨ao, ca, rfl, hla, hna, hca⟩ := ha
  obtain ⟨bo, cb, rfl, hlb, hnb, hcb⟩ := hb
  by_cases hx : xs = []
  · subst hx
    refine (sliceEq_empty ao bo ca cb w).mono ?_
    rintro e w' ⟨rfl, rfl⟩
    exact ⟨rfl, 0, rfl⟩
  · have hpos : 0 < xs.length := List.length_pos_iff.2 hx
    cases ao with
    | none => have := hna rfl; omega
    | some a =>
      cases bo with
      | none => have := hnb rfl; omega
      | some b => exact sliceEq_some a b ca cb xs w hm (hca a rfl) (hcb b rfl)

end Go.Proofs.Ythdghnppledakaa
