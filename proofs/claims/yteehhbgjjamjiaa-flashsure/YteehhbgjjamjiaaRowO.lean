/- How a script of operations, as the row hands it over, is seen by the walks. -/
import Derived.Test.YteehhbgjjamjiaaRow
import Derived.Test.YteehhbgjjamjiaaOps
import Derived.Deep.Slices
import Derived.Deep.SlicePairs
namespace Go.Proofs.Yteehhbgjjamjiaa
open Go.ChangeShapes Go.WideShapes Go.ChangeAt Go.RowKit Go.Deep

theorem i64_wf {n : Int} (h : (Lit.int .i64 n).wf = true) : I64 n := bounds_i64 h

theorem view_blob {H : Type} {enc : TypeId × Value → H} {W : World} {fuel : Nat} {cs : List Value} {x : DataW H × List MemPlace}
    (hf : DataW.trod enc Try.prog W 0 (fun _ => true) true fuel 28 cs = some x) : ∃ v zs, cs = [v] ∧ Sees W .u8 v zs ∧ Byt zs := by
  rcases open_ints Try.underlying28 Try.underlying5 (by kernel_rfl) hf with ⟨rfl, hx⟩ | ⟨a, len, cap, zs, rfl, _, hl, hm, hz, hx, hcell, hwz⟩
  · exact ⟨_, [], rfl, Sees.nil _ _, fun b hb => by cases hb⟩
  · simp only [if_true] at hz
    have hlen : (zs.take len).length = len := by simp; omega
    refine ⟨_, zs.take len, rfl, ⟨_, cap, by rw [hlen], by rw [hlen]; exact hl, (fun h => by cases h), fun a' h t ht => ?_⟩, fun b hb => byte_wf (hwz b (List.mem_of_mem_take hb))⟩
    obtain rfl := Option.some.inj h
    rw [hlen] at ht
    rw [hcell t (by omega)]
    simp [List.getD, ht]

theorem Try.cells30 : Try.prog.cellsOf 30 = 6 := by kernel_rfl
theorem Try.cells3 : Try.prog.cellsOf 3 = 1 := by kernel_rfl
theorem Try.cells28 : Try.prog.cellsOf 28 = 1 := by kernel_rfl

theorem list6 {α : Type} {l : List α} (h : l.length = 6) : ∃ a b c d e f, l = [a, b, c, d, e, f] := by
  rcases l with _ | ⟨a, l⟩
  · simp at h
  rcases l with _ | ⟨b, l⟩
  · simp at h
  rcases l with _ | ⟨c, l⟩
  · simp at h
  rcases l with _ | ⟨d, l⟩
  · simp at h
  rcases l with _ | ⟨e, l⟩
  · simp at h
  rcases l with _ | ⟨f, l⟩
  · simp at h
  rcases l with _ | ⟨g, l⟩
  · exact ⟨a, b, c, d, e, f, rfl⟩
  · simp at h

/-- One operation. -/
theorem view_op {H : Type} {enc : TypeId × Value → H} {W : World} {fuel : Nat} {cs : List Value} {x : DataW H × List MemPlace} (hl : cs.length = 6)
    (hf : DataW.trod enc Try.prog W 0 (fun _ => true) true fuel 30 cs = some x) : ∃ o : OpV, cs = o.cells ∧ OpOk W o := by
  obtain ⟨xs, n, _, rfl, _, hxl, hg⟩ := DataW.trod_struct Try.underlying30 hf
  obtain ⟨y0, y1, y2, y3, y4, y5, rfl⟩ := list6 hxl
  obtain ⟨v0, v1, v2, v3, v4, v5, rfl⟩ := list6 hl
  · skip
    have g0 := hg 0 _ rfl
    have g1 := hg 1 _ rfl
    have g2 := hg 2 _ rfl
    have g3 := hg 3 _ rfl
    have g4 := hg 4 _ rfl
    have g5 := hg 5 _ rfl
    simp [Try.cells3, Try.cells28] at g0 g1 g2 g3 g4 g5
    obtain ⟨n0, e0, _, w0⟩ := DataW.trod_int Try.underlying3 g0
    obtain ⟨n1, e1, _, w1⟩ := DataW.trod_int Try.underlying3 g1
    obtain ⟨n2, e2, _, w2⟩ := DataW.trod_int Try.underlying3 g2
    obtain ⟨n3, e3, _, w3⟩ := DataW.trod_int Try.underlying3 g3
    obtain ⟨n4, e4, _, w4⟩ := DataW.trod_int Try.underlying3 g4
    obtain ⟨v, zs, e5, hs, hb⟩ := view_blob g5
    simp only [List.cons.injEq, and_true] at e0 e1 e2 e3 e4 e5
    subst e0 e1 e2 e3 e4 e5
    exact ⟨⟨n0, n1, n2, n3, n4, v5, zs⟩, rfl, ⟨i64_wf w0, i64_wf w1, i64_wf w2, i64_wf w3, i64_wf w4, hs, hb⟩⟩

set_option maxRecDepth 100000 in
/-- One operation as an argument. -/
theorem view_arg {H : Type} {enc : TypeId × Value → H} {W : World} {r : Reach} {b0 : Nat} {v : Value} {d : DataW H} {p : List MemPlace} (hval : Value.okWide Try.prog W r b0 30 v)
    (hf : DataW.Trod enc Try.prog W 0 (fun _ => true) true 30 v d p) : ∃ o : OpV, v = o.agg ∧ OpOk W o := by
  obtain ⟨cs, rfl, hsz⟩ := okWide_struct Try.underlying30 hval
  obtain ⟨fuel, hf⟩ := hf
  rw [Try.cells30] at hsz
  have e : (Value.agg cs).cells.toList = cs.toList := by simp [Value.cells]
  rw [e] at hf
  obtain ⟨o, ho, hok⟩ := view_op (by simpa using hsz) hf
  refine ⟨o, ?_, hok⟩
  have : cs = o.cells.toArray := by rw [← ho]
  rw [this]
  rfl

/-- A script. -/
theorem view_ops {H : Type} {enc : TypeId × Value → H} {W : World} {fuel : Nat} {a0 : Option Addr} {len cap : Nat} {x : DataW H × List MemPlace}
    (hf : DataW.trod enc Try.prog W 0 (fun _ => true) true fuel 22 (Value.slice a0 len cap).cells.toList = some x) : ∃ os : Nat → OpV, SeesOps W (.slice a0 len cap) len os := by
  rcases open_slice Try.underlying22 hf with ⟨hcs, hx⟩ | ⟨a, l, c, m, n, D, Pl, hcs, _, hl, hm, hmm, _, hx⟩
  · simp [Value.cells] at hcs
    obtain ⟨rfl, rfl, rfl⟩ := hcs
    exact ⟨fun _ => ⟨0, 0, 0, 0, 0, .slice none 0 0, []⟩, none, 0, 0, 0, rfl, Nat.le_refl _, by omega, (fun h => by omega), (fun t h => by omega)⟩
  · simp [Value.cells] at hcs
    obtain ⟨rfl, rfl, rfl⟩ := hcs
    simp only [if_true] at hmm
    subst hmm
    obtain ⟨b, o, s⟩ := a
    have each : ∀ i, i < len → ∃ q : OpV, OpOk W q ∧ ∀ k, k < 6 → W.cell? ((⟨b, o, s⟩ : Addr).add (i * 6 + k)) = q.cells[k]? := by
      intro i hi
      obtain ⟨cs', h1, h2⟩ := hx i (by omega)
      rw [Try.cells30] at h1
      obtain ⟨_, hlen, hcell⟩ := World.cells?_some h1
      obtain ⟨q, rfl, hq⟩ := view_op hlen h2
      refine ⟨q, hq, fun k hk => ?_⟩
      have := hcell k hk
      rw [add_add] at this
      exact this
    obtain ⟨q, hq⟩ := choose_lt each
    refine ⟨q, some ⟨b, o, s⟩, _, b, o, rfl, hl, by unfold maxLen at hm; omega, fun h0 => ?_, fun t ht => ?_⟩
    · have := (hq 0 h0).2 0 (by omega)
      have hspot : s = none := by
        have h' : W.cell? ((⟨b, o, s⟩ : Addr).add (0 * 6 + 0)) = some (.int .i64 (q 0).act) := this
        simpa [Addr.add] using World.cell?_spot h'
      subst hspot
      rfl
    · have hs : s = none := by
        have h' : W.cell? ((⟨b, o, s⟩ : Addr).add (0 * 6 + 0)) = some (.int .i64 (q 0).act) := (hq 0 (by omega)).2 0 (by omega)
        simpa [Addr.add] using World.cell?_spot h'
      subst hs
      have ad : ∀ j, (⟨b, o, none⟩ : Addr).add j = ⟨b, o + j, none⟩ := fun j => by unfold Addr.add; split <;> simp_all
      have c : ∀ k, k < 6 → W.cell? ⟨b, o + t * 6 + k, none⟩ = (q t).cells[k]? := fun k hk => by rw [← (hq t ht).2 k hk, ad, Nat.add_assoc]
      exact ⟨(hq t ht).1, c 0 (by omega), c 1 (by omega), c 2 (by omega), c 3 (by omega), c 4 (by omega), c 5 (by omega)⟩

end Go.Proofs.Yteehhbgjjamjiaa
