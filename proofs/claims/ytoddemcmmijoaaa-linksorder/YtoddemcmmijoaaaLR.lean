/- A list of messages and a way as arguments, with the greatest size that the row asks of each of their lists. -/
import Derived.Test.YtoddemcmmijoaaaKP
import Derived.Test.YtoddemcmmijoaaaKH
namespace Go.Proofs.Ytoddemcmmijoaaa
open Go.ChangeShapes Go.WideShapes Go.ChangeAt Go.RowKit Go.Deep
set_option maxRecDepth 100000

section
variable {H : Type} {enc : TypeId × Value → H} {W : World}
theorem bytes_msg : Try.prog.bytesOf 38 = 184 := by kernel_rfl
/-- What the walk asks of a message. -/
def OkV (W : World) (p : MV) : Prop := SeesM W (msgCells p).toArray p.1 ∧ SizeM p.1 ∧ (-9223372036854775808 ≤ p.1.frm ∧ p.1.frm ≤ 9223372036854775807) ∧ -9223372036854775808 ≤ p.1.to ∧ p.1.to ≤ 9223372036854775807
instance : Inhabited MV := ⟨(⟨0, 0, 0, 0, 0, 0, 0, false, [], ⟨0, 0, 0, []⟩, ⟨0, 0, 0, []⟩⟩, .slice none 0 0, .slice none 0 0, .slice none 0 0)⟩
theorem view_msgC {fuel : Nat} {cs : List Value} {x : DataW H × List MemPlace} (hl : cs.length = 17) (hf : DataW.trod enc Try.prog W 0 (fun _ => true) true fuel 38 cs = some x) (hB : Light 38 x.1) : ∃ p : MV, cs = msgCells p ∧ OkV W p := by
  obtain ⟨xs, n, _, rfl, _, hxl, hg⟩ := DataW.trod_struct Try.underlying38 hf
  obtain ⟨y0, y1, y2, y3, y4, y5, y6, y7, y8, y9, y10, rfl⟩ := list11 hxl
  obtain ⟨v0, v1, v2, v3, v4, v5, v6, v7, v8, v9, v10, v11, v12, v13, v14, v15, v16, rfl⟩ := list17 hl
  have g0 := hg 0 _ rfl
  have g1 := hg 1 _ rfl
  have g2 := hg 2 _ rfl
  have g3 := hg 3 _ rfl
  have g4 := hg 4 _ rfl
  have g5 := hg 5 _ rfl
  have g6 := hg 6 _ rfl
  have g7 := hg 7 _ rfl
  have g8 := hg 8 _ rfl
  have g9 := hg 9 _ rfl
  have g10 := hg 10 _ rfl
  simp [Try.cells2, Try.cells3, Try.cells4, Try.cells33, Try.cells30, Try.cells36] at g0 g1 g2 g3 g4 g5 g6 g7 g8 g9 g10
  obtain ⟨n0, e0, _, _⟩ := DataW.trod_int Try.underlying3 g0
  obtain ⟨n1, e1, _, w1⟩ := DataW.trod_int Try.underlying3 g1
  obtain ⟨n2, e2, _, w2⟩ := DataW.trod_int Try.underlying3 g2
  obtain ⟨n3, e3, _, _⟩ := DataW.trod_int Try.underlying2 g3
  obtain ⟨n4, e4, _, _⟩ := DataW.trod_int Try.underlying2 g4
  obtain ⟨n5, e5, _, _⟩ := DataW.trod_int Try.underlying2 g5
  obtain ⟨n6, e6, _, _⟩ := DataW.trod_int Try.underlying2 g6
  obtain ⟨bY, e7, _⟩ := DataW.trod_bool Try.underlying4 g7
  obtain ⟨lv, ml, e8, a1, a2, a3, a4⟩ := view_tmsR g8 (light_field Try.underlying38 hB (i := 8) rfl rfl)
  obtain ⟨en, tv, e9, b1, b2, b3, b4⟩ := view_entR rfl g9 (light_field Try.underlying38 hB (i := 9) rfl rfl)
  obtain ⟨pt, dv, e10, c1, c2, c3⟩ := view_ptR rfl g10 (light_field Try.underlying38 hB (i := 10) rfl rfl)
  simp only [List.cons.injEq, and_true] at e0 e1 e2 e3 e4 e5 e6 e7 e8 e9 e10
  obtain ⟨rfl, rfl, rfl, rfl⟩ := e9
  obtain ⟨rfl, rfl, rfl, rfl⟩ := e10
  subst e0 e1 e2 e3 e4 e5 e6 e7 e8
  exact ⟨(⟨n0, n1, n2, n3, n4, n5, n6, bY, ml, en, pt⟩, v8, v12, v16), rfl, ⟨v8, v12, v16, rfl, a1, b1, c1⟩, ⟨a3, a4, b3, b4, c3, ⟨a2, b2, c2⟩⟩, bounds_i64 w1, bounds_i64 w2⟩
theorem view_msgsR {fuel : Nat} {cs : List Value} {x : DataW H × List MemPlace} (hf : DataW.trod enc Try.prog W 0 (fun _ => true) true fuel 22 cs = some x) (hB : Light 22 x.1) : ∃ v vs, cs = [v] ∧ SeesMs W v vs ∧ ∀ p ∈ vs, OkV W p := by
  obtain ⟨a0, cap, gb, ob, l, rfl, h1, h2, h3, h4⟩ := view_listR (M := 764877654082) (fun k h => by rw [bytes_msg] at h; omega) (α := MV) Try.underlying22 Try.cells38 (by decide) msgCells (OkV W) msgCells_len (fun _ _ _ hl hf hB => view_msgC hl hf hB) hf hB
  have e : ∀ (t : Nat) p, l[t]? = some p → t < l.length ∧ l.getD t default = p := fun t p hp => by
    obtain ⟨ht, rfl⟩ := List.getElem?_eq_some_iff.1 hp
    exact ⟨ht, by simp [List.getD, ht]⟩
  have hok : ∀ (t : Nat) p, l[t]? = some p → OkV W p := fun t p hp => by
    obtain ⟨ht, ep⟩ := e t p hp
    have := (h4 t ht).1
    rwa [ep] at this
  refine ⟨_, l, rfl, ⟨a0, cap, gb, ob, rfl, h1, by omega, h3, fun t p hp => ⟨fun j u hu => ?_, (hok t p hp).1⟩⟩, fun p hp => ?_⟩
  · obtain ⟨ht, ep⟩ := e t p hp
    have hj : j < 17 := by have := (List.getElem?_eq_some_iff.1 hu).1; rwa [msgCells_len] at this
    have := (h4 t ht).2 j hj
    rw [ep] at this
    exact this.trans hu
  · obtain ⟨t, ht⟩ := List.getElem?_of_mem hp
    exact hok t p ht
theorem view_msgsArg {v : Value} {d : DataW H} {p : List MemPlace} {a : Option Addr} {n c : Nat} (hv : v = .slice a n c) (hf : DataW.Trod enc Try.prog W 0 (fun _ => true) true 22 v d p) (hB : Light 22 d) : ∃ vs, SeesMs W v vs ∧ ∀ p ∈ vs, OkV W p := by
  obtain ⟨fuel, hf⟩ := hf
  have e : v.cells.toList = [v] := by rw [hv]; rfl
  rw [e] at hf
  obtain ⟨v', vs, h1, h2, h3⟩ := view_msgsR hf hB
  obtain rfl : v = v' := by simpa using h1
  exact ⟨vs, h2, h3⟩
theorem view_wayArg {r : Reach} {b0 : Nat} {v : Value} {d : DataW H} {p : List MemPlace} (hval : Value.okWide Try.prog W r b0 24 v) (hf : DataW.Trod enc Try.prog W 0 (fun _ => true) true 24 v d p) :
    ∃ a b : Int, v = .agg #[.int .i64 a, .int .i64 b] ∧ (-9223372036854775808 ≤ a ∧ a ≤ 9223372036854775807) ∧ -9223372036854775808 ≤ b ∧ b ≤ 9223372036854775807 := by
  obtain ⟨cs, rfl, hsz⟩ := okWide_struct Try.underlying24 hval
  obtain ⟨fuel, hf⟩ := hf
  rw [Try.cells24] at hsz
  have e : (Value.agg cs).cells.toList = cs.toList := by simp [Value.cells]
  rw [e] at hf
  obtain ⟨xs, n, _, _, _, hxl, hg⟩ := DataW.trod_struct Try.underlying24 hf
  obtain ⟨y0, y1, rfl⟩ := list2 hxl
  obtain ⟨v0, v1, hcs⟩ := list2 (l := cs.toList) (by simpa using hsz)
  rw [hcs] at hg
  have g0 := hg 0 _ rfl
  have g1 := hg 1 _ rfl
  simp [Try.cells3] at g0 g1
  obtain ⟨n0, e0, _, w0⟩ := DataW.trod_int Try.underlying3 g0
  obtain ⟨n1, e1, _, w1⟩ := DataW.trod_int Try.underlying3 g1
  simp only [List.cons.injEq, and_true] at e0 e1
  subst e0 e1
  refine ⟨n0, n1, ?_, bounds_i64 w0, bounds_i64 w1⟩
  have : cs = (cs.toList).toArray := by simp
  rw [this, hcs]
end
end Go.Proofs.Ytoddemcmmijoaaa
