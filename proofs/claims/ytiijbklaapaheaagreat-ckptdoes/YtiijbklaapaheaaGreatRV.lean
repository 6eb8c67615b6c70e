/- How bytes, a region, a checkpoint and operations, as the row hands them over, are seen by the walks; no bounds but the machine's. -/
import Derived.Test.YtiijbklaapaheaaGreatKX
import Derived.Test.YtiijbklaapaheaaGreatKQ
namespace Go.Proofs.YtiijbklaapaheaaGreat
open Go.ChangeShapes Go.WideShapes Go.ChangeAt Go.RowKit Go.Deep
set_option maxRecDepth 100000

theorem Tryz.cells37 : Tryz.prog.cellsOf 37 = 9 := by kernel_rfl
theorem list6 {α : Type} {l : List α} (h : l.length = 6) : ∃ a b c d e f, l = [a, b, c, d, e, f] := by
  match l, h with
  | [a, b, c, d, e, f], _ => exact ⟨a, b, c, d, e, f, rfl⟩
theorem list9 {α : Type} {l : List α} (h : l.length = 9) : ∃ a b c d e f g i j, l = [a, b, c, d, e, f, g, i, j] := by
  match l, h with
  | [a, b, c, d, e, f, g, i, j], _ => exact ⟨a, b, c, d, e, f, g, i, j, rfl⟩

/-- An operation's region is of the machine's numbers. -/
def OpR (o : OpV) : Prop := (-9223372036854775808 ≤ o.f ∧ o.f ≤ 9223372036854775807) ∧ (-9223372036854775808 ≤ o.n ∧ o.n ≤ 9223372036854775807)

section
variable {H : Type} {enc : TypeId × Value → H} {W : World}

theorem trod_bytes {fuel : Nat} {cs : List Value} {x : DataW H × List MemPlace} (hf : DataW.trod enc Tryz.prog W 0 (fun _ => true) true fuel 33 cs = some x) : ∃ ao cap zs, cs = [.slice ao zs.length cap] ∧ Sees W .u8 (.slice ao zs.length cap) zs ∧ Byt zs ∧ zs.length ≤ 9223372036854775807 := by
  rcases open_ints Tryz.underlying33 Tryz.underlying5 (by kernel_rfl) hf with ⟨rfl, hx⟩ | ⟨a, len, cap, zs, rfl, _, hl, hm, hz, rfl, hcell, hwz⟩
  · exact ⟨none, 0, [], rfl, Sees.nil _ _, (fun b hb => by cases hb), by simp⟩
  · simp only [if_true] at hz
    have hlen : (zs.take len).length = len := by simp; omega
    refine ⟨_, cap, zs.take len, by rw [hlen], ⟨_, cap, rfl, by rw [hlen]; exact hl, (fun h => by cases h), fun a' h t ht => ?_⟩, (fun b hb => bounds_u8 (hwz b (List.mem_of_mem_take hb))), by rw [hlen]; unfold maxLen at hm; omega⟩
    obtain rfl := Option.some.inj h
    rw [hlen] at ht
    rw [hcell t (by omega)]
    simp [List.getD, ht]

theorem trod_region {fuel : Nat} {cs : List Value} {x : DataW H × List MemPlace} (hl : cs.length = 2) (hf : DataW.trod enc Tryz.prog W 0 (fun _ => true) true fuel 32 cs = some x) :
    ∃ a b : Int, cs = [.int .i64 a, .int .i64 b] ∧ (-9223372036854775808 ≤ a ∧ a ≤ 9223372036854775807) ∧ (-9223372036854775808 ≤ b ∧ b ≤ 9223372036854775807) := by
  obtain ⟨v0, v1, rfl⟩ := list2 hl
  obtain ⟨xs, n, _, _, _, hxl, hg⟩ := DataW.trod_struct Tryz.underlying32 hf
  obtain ⟨y0, y1, rfl⟩ := list2 hxl
  have g0 := hg 0 _ rfl
  have g1 := hg 1 _ rfl
  simp [Tryz.cells3] at g0 g1
  obtain ⟨n0, e0, _, w0⟩ := DataW.trod_int Tryz.underlying3 g0
  obtain ⟨n1, e1, _, w1⟩ := DataW.trod_int Tryz.underlying3 g1
  simp only [List.cons.injEq, and_true] at e0 e1
  subst e0 e1
  exact ⟨n0, n1, rfl, bounds_i64 w0, bounds_i64 w1⟩

theorem trod_saved {fuel : Nat} {cs : List Value} {x : DataW H × List MemPlace} (hl : cs.length = 3) (hf : DataW.trod enc Tryz.prog W 0 (fun _ => true) true fuel 35 cs = some x) :
    ∃ (s l : Int) (ao : Option Addr) (cap : Nat) (ds : List Int), cs = [.int .i64 s, .int .i64 l, .slice ao ds.length cap] ∧ Sees W .u8 (.slice ao ds.length cap) ds ∧ Byt ds ∧ ds.length ≤ 9223372036854775807 := by
  obtain ⟨v0, v1, v2, rfl⟩ := list3 hl
  obtain ⟨xs, n, _, _, _, hxl, hg⟩ := DataW.trod_struct Tryz.underlying35 hf
  obtain ⟨y0, y1, y2, rfl⟩ := list3 hxl
  have g0 := hg 0 _ rfl
  have g1 := hg 1 _ rfl
  have g2 := hg 2 _ rfl
  simp [Tryz.cells2, Tryz.cells33] at g0 g1 g2
  obtain ⟨n0, e0, _, _⟩ := DataW.trod_int Tryz.underlying2 g0
  obtain ⟨n1, e1, _, _⟩ := DataW.trod_int Tryz.underlying2 g1
  obtain ⟨ao, cap, zs, e2, hs, hb, hz⟩ := trod_bytes g2
  simp only [List.cons.injEq, and_true] at e0 e1 e2
  subst e0 e1 e2
  exact ⟨n0, n1, ao, cap, zs, rfl, hs, hb, hz⟩

/-- One operation. -/
theorem trod_op {fuel : Nat} {cs : List Value} {x : DataW H × List MemPlace} (hl : cs.length = 9) (hf : DataW.trod enc Tryz.prog W 0 (fun _ => true) true fuel 37 cs = some x) : ∃ o : OpV, cs = o.cells ∧ OpOk W o ∧ OpR o := by
  obtain ⟨v0, v1, v2, v3, v4, v5, v6, v7, v8, rfl⟩ := list9 hl
  obtain ⟨xs, n, _, _, _, hxl, hg⟩ := DataW.trod_struct Tryz.underlying37 hf
  obtain ⟨y0, y1, y2, y3, y4, y5, rfl⟩ := list6 hxl
  have g0 := hg 0 _ rfl
  have g1 := hg 1 _ rfl
  have g2 := hg 2 _ rfl
  have g3 := hg 3 _ rfl
  have g4 := hg 4 _ rfl
  have g5 := hg 5 _ rfl
  simp [Tryz.cells3, Tryz.cells35, Tryz.cells32] at g0 g1 g2 g3 g4 g5
  obtain ⟨n0, e0, _, _⟩ := DataW.trod_int Tryz.underlying3 g0
  obtain ⟨f, m, e1, rg1, rg2⟩ := trod_region rfl g1
  obtain ⟨s, l, ao, cap, ds, e2, hs, hb, hz⟩ := trod_saved rfl g2
  obtain ⟨n6, e6, _, _⟩ := DataW.trod_int Tryz.underlying3 g3
  obtain ⟨n7, e7, _, _⟩ := DataW.trod_int Tryz.underlying3 g4
  obtain ⟨n8, e8, _, _⟩ := DataW.trod_int Tryz.underlying3 g5
  simp only [List.cons.injEq, and_true] at e0 e1 e2 e6 e7 e8
  obtain ⟨rfl, rfl⟩ := e1
  obtain ⟨rfl, rfl, rfl⟩ := e2
  subst e0 e6 e7 e8
  exact ⟨⟨n0, f, m, s, l, n6, n7, n8, ao, cap, ds⟩, rfl, ⟨hs, hb, hz⟩, rg1, rg2⟩

theorem view_regionI {r : Reach} {b0 : Nat} {v : Value} {d : DataW H} {p : List MemPlace} (hval : Value.okWide Tryz.prog W r b0 32 v) (hf : DataW.Trod enc Tryz.prog W 0 (fun _ => true) true 32 v d p) :
    ∃ a b : Int, v = .agg #[.int .i64 a, .int .i64 b] ∧ (-9223372036854775808 ≤ a ∧ a ≤ 9223372036854775807) ∧ (-9223372036854775808 ≤ b ∧ b ≤ 9223372036854775807) := by
  obtain ⟨cs, rfl, hsz⟩ := okWide_struct Tryz.underlying32 hval
  obtain ⟨fuel, hf⟩ := hf
  rw [Tryz.cells32] at hsz
  have e : (Value.agg cs).cells.toList = cs.toList := by simp [Value.cells]
  rw [e] at hf
  obtain ⟨a, b, ho, hok⟩ := trod_region (by simpa using hsz) hf
  refine ⟨a, b, ?_, hok⟩
  rw [show cs = cs.toList.toArray by simp, ho]

theorem view_saved {r : Reach} {b0 : Nat} {v : Value} {d : DataW H} {p : List MemPlace} (hval : Value.okWide Tryz.prog W r b0 35 v) (hf : DataW.Trod enc Tryz.prog W 0 (fun _ => true) true 35 v d p) :
    ∃ (s l : Int) (ao : Option Addr) (cap : Nat) (ds : List Int), v = .agg #[.int .i64 s, .int .i64 l, .slice ao ds.length cap] ∧ Sees W .u8 (.slice ao ds.length cap) ds ∧ Byt ds ∧ ds.length ≤ 9223372036854775807 := by
  obtain ⟨cs, rfl, hsz⟩ := okWide_struct Tryz.underlying35 hval
  obtain ⟨fuel, hf⟩ := hf
  rw [Tryz.cells35] at hsz
  have e : (Value.agg cs).cells.toList = cs.toList := by simp [Value.cells]
  rw [e] at hf
  obtain ⟨s, l, ao, cap, ds, ho, hok⟩ := trod_saved (by simpa using hsz) hf
  refine ⟨s, l, ao, cap, ds, ?_, hok⟩
  rw [show cs = cs.toList.toArray by simp, ho]

/-- One operation as an argument. -/
theorem view_op {r : Reach} {b0 : Nat} {v : Value} {d : DataW H} {p : List MemPlace} (hval : Value.okWide Tryz.prog W r b0 37 v) (hf : DataW.Trod enc Tryz.prog W 0 (fun _ => true) true 37 v d p) : ∃ o : OpV, v = o.agg ∧ OpOk W o ∧ OpR o := by
  obtain ⟨cs, rfl, hsz⟩ := okWide_struct Tryz.underlying37 hval
  obtain ⟨fuel, hf⟩ := hf
  rw [Tryz.cells37] at hsz
  have e : (Value.agg cs).cells.toList = cs.toList := by simp [Value.cells]
  rw [e] at hf
  obtain ⟨o, ho, hok⟩ := trod_op (by simpa using hsz) hf
  refine ⟨o, ?_, hok⟩
  rw [show cs = cs.toList.toArray by simp, ho]
  rfl

/-- A script. -/
theorem view_ops {fuel : Nat} {a0 : Option Addr} {len cap : Nat} {x : DataW H × List MemPlace}
    (hf : DataW.trod enc Tryz.prog W 0 (fun _ => true) true fuel 22 (Value.slice a0 len cap).cells.toList = some x) : ∃ os : Nat → OpV, SeesOps W (.slice a0 len cap) len os ∧ ∀ t, t < len → OpR (os t) := by
  rcases open_slice Tryz.underlying22 hf with ⟨hcs, hx⟩ | ⟨a, l, c, m, n, D, Pl, hcs, _, hl, hm, hmm, _, hx⟩
  · simp [Value.cells] at hcs
    obtain ⟨rfl, rfl, rfl⟩ := hcs
    exact ⟨fun _ => ⟨0, 0, 0, 0, 0, 0, 0, 0, none, 0, []⟩, ⟨none, 0, 0, 0, rfl, Nat.le_refl _, by omega, (fun h => by omega), (fun t h => by omega)⟩, fun t h => by omega⟩
  · simp [Value.cells] at hcs
    obtain ⟨rfl, rfl, rfl⟩ := hcs
    simp only [if_true] at hmm
    subst hmm
    obtain ⟨b, o, s⟩ := a
    have each : ∀ i, i < len → ∃ q : OpV, (OpOk W q ∧ OpR q) ∧ ∀ k, k < 9 → W.cell? ((⟨b, o, s⟩ : Addr).add (i * 9 + k)) = q.cells[k]? := by
      intro i hi
      obtain ⟨cs', h1, h2⟩ := hx i (by omega)
      rw [Tryz.cells37] at h1
      obtain ⟨_, hlen, hcell⟩ := World.cells?_some h1
      obtain ⟨q, rfl, hq⟩ := trod_op hlen h2
      refine ⟨q, hq, fun k hk => ?_⟩
      have := hcell k hk
      rw [add_add] at this
      exact this
    obtain ⟨q, hq⟩ := choose_lt each
    refine ⟨q, ⟨some ⟨b, o, s⟩, _, b, o, rfl, hl, by unfold maxLen at hm; omega, fun h0 => ?_, fun t ht => ?_⟩, fun t ht => (hq t ht).1.2⟩
    · have := (hq 0 h0).2 0 (by omega)
      have hspot : s = none := by
        have h' : W.cell? ((⟨b, o, s⟩ : Addr).add (0 * 9 + 0)) = some (.int .i64 (q 0).x0) := this
        simpa [Addr.add] using World.cell?_spot h'
      subst hspot
      rfl
    · have hs : s = none := by
        have h' : W.cell? ((⟨b, o, s⟩ : Addr).add (0 * 9 + 0)) = some (.int .i64 (q 0).x0) := (hq 0 (by omega)).2 0 (by omega)
        simpa [Addr.add] using World.cell?_spot h'
      subst hs
      have ad : ∀ j, (⟨b, o, none⟩ : Addr).add j = ⟨b, o + j, none⟩ := fun j => by unfold Addr.add; split <;> simp_all
      have c : ∀ k, k < 9 → W.cell? ⟨b, o + t * 9 + k, none⟩ = (q t).cells[k]? := fun k hk => by rw [← (hq t ht).2 k hk, ad, Nat.add_assoc]
      exact ⟨(hq t ht).1.1, c 0 (by omega), c 1 (by omega), c 2 (by omega), c 3 (by omega), c 4 (by omega), c 5 (by omega), c 6 (by omega), c 7 (by omega), c 8 (by omega)⟩
end
end Go.Proofs.YtiijbklaapaheaaGreat
