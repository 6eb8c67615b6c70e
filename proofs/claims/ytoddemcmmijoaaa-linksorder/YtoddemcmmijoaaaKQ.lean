/- Several texts as one. -/
import Derived.Test.YtoddemcmmijoaaaRows
import Derived.Test.YtoddemcmmijoaaaKY
import Derived.WalkKit
import Derived.ProofKit
import Derived.OpenShut
import Derived.ShutString
import Derived.ChangeOld
import Derived.Below
import Derived.SizedLaws
import Derived.JoinedCond
import Derived.Deep.Slices
import Derived.Deep.SlicePairs

/- How entries, as the row hands them over, are seen by the walks. -/
namespace Go.Proofs.Ytoddemcmmijoaaa
open Go.ChangeShapes Go.WideShapes Go.ChangeAt Go.RowKit Go.Deep
set_option maxRecDepth 100000

theorem ownK : ownKnob Try.prog.godebug = none := by kernel_rfl
theorem laidOut : laidOutB Try.prog = true := by kernel_rfl
theorem Try.cells2 : Try.prog.cellsOf 2 = 1 := by kernel_rfl
theorem Try.cells3 : Try.prog.cellsOf 3 = 1 := by kernel_rfl
theorem Try.cells21 : Try.prog.cellsOf 21 = 1 := by kernel_rfl
theorem Try.cells31 : Try.prog.cellsOf 31 = 1 := by kernel_rfl
theorem Try.cells33 : Try.prog.cellsOf 33 = 4 := by kernel_rfl
theorem Try.cells34 : Try.prog.cellsOf 34 = 1 := by kernel_rfl
theorem Try.cells78 : Try.prog.cellsOf 78 = 1 := by kernel_rfl
theorem Try.cells79 : Try.prog.cellsOf 79 = 1 := by kernel_rfl
theorem Try.cells81 : Try.prog.cellsOf 81 = 6 := by kernel_rfl
theorem Try.cells103 : Try.prog.cellsOf 103 = 2 := by kernel_rfl

section
variable {H : Type} {enc : TypeId × Value → H} {W : World}

theorem view_bytes {fuel : Nat} {cs : List Value} {x : DataW H × List MemPlace} (hf : DataW.trod enc Try.prog W 0 (fun _ => true) true fuel 34 cs = some x) : ∃ v zs, cs = [v] ∧ Sees W .u8 v zs ∧ Byt zs := by
  rcases open_ints Try.underlying34 Try.underlying5 (by kernel_rfl) hf with ⟨rfl, hx⟩ | ⟨a, len, cap, zs, rfl, _, hl, hm, hz, hx, hcell, hwz⟩
  · exact ⟨_, [], rfl, Sees.nil _ _, fun b hb => by cases hb⟩
  · simp only [if_true] at hz
    have hlen : (zs.take len).length = len := by simp; omega
    refine ⟨_, zs.take len, rfl, ⟨_, cap, by rw [hlen], by rw [hlen]; exact hl, (fun h => by cases h), fun a' h t ht => ?_⟩, fun b hb => bounds_u8 (hwz b (List.mem_of_mem_take hb))⟩
    obtain rfl := Option.some.inj h
    rw [hlen] at ht
    rw [hcell t (by omega)]
    simp [List.getD, ht]
theorem view_ints {fuel : Nat} {cs : List Value} {x : DataW H × List MemPlace} (hf : DataW.trod enc Try.prog W 0 (fun _ => true) true fuel 78 cs = some x) : ∃ v zs, cs = [v] ∧ Sees W .i64 v zs ∧ (∀ b ∈ zs, -9223372036854775808 ≤ b ∧ b ≤ 9223372036854775807) ∧ zs.length ≤ 9223372036854775807 := by
  rcases open_ints Try.underlying78 Try.underlying2 (by kernel_rfl) hf with ⟨rfl, hx⟩ | ⟨a, len, cap, zs, rfl, _, hl, hm, hz, hx, hcell, hwz⟩
  · exact ⟨_, [], rfl, Sees.nil _ _, (fun b hb => by cases hb), by simp⟩
  · simp only [if_true] at hz
    have hlen : (zs.take len).length = len := by simp; omega
    refine ⟨_, zs.take len, rfl, ⟨_, cap, by rw [hlen], by rw [hlen]; exact hl, (fun h => by cases h), fun a' h t ht => ?_⟩, fun b hb => bounds_i64 (hwz b (List.mem_of_mem_take hb)), by rw [hlen]; unfold maxLen at hm; omega⟩
    obtain rfl := Option.some.inj h
    rw [hlen] at ht
    rw [hcell t (by omega)]
    simp [List.getD, ht]

/-- A slice of parts of n cells each. -/
theorem view_list {α : Type} [Inhabited α] {T E n : Nat} (hT : Try.prog.underlying T = some (.slice E)) (hE : Try.prog.cellsOf E = n) (hn : 0 < n) (cell : α → List Value) (ok : α → Prop) (hlen : ∀ a, (cell a).length = n)
    (each : ∀ fuel cs (x : DataW H × List MemPlace), cs.length = n → DataW.trod enc Try.prog W 0 (fun _ => true) true fuel E cs = some x → ∃ a, cs = cell a ∧ ok a)
    {fuel : Nat} {cs : List Value} {x : DataW H × List MemPlace} (hf : DataW.trod enc Try.prog W 0 (fun _ => true) true fuel T cs = some x) :
    ∃ (a0 : Option Addr) (cap gb ob : Nat) (l : List α), cs = [.slice a0 l.length cap] ∧ l.length ≤ cap ∧ l.length ≤ 9223372036854775807 ∧ (0 < l.length → a0 = some ⟨gb, ob, none⟩) ∧ ∀ t, t < l.length → ok (l.getD t default) ∧ ∀ k, k < n → W.cell? ⟨gb, ob + t * n + k, none⟩ = (cell (l.getD t default))[k]? := by
  rcases open_slice hT hf with ⟨rfl, hx⟩ | ⟨a, len, c, m, fl, D, Pl, rfl, _, hl, hm, hmm, _, hx⟩
  · exact ⟨none, 0, 0, 0, [], rfl, by simp, by simp, (fun h => absurd h (by simp)), fun t h => absurd h (by simp)⟩
  · simp only [if_true] at hmm
    subst hmm
    obtain ⟨b, o, s⟩ := a
    have ea : ∀ i, i < len → ∃ q : α, ok q ∧ ∀ k, k < n → W.cell? ((⟨b, o, s⟩ : Addr).add (i * n + k)) = (cell q)[k]? := by
      intro i hi
      obtain ⟨cs', h1, h2⟩ := hx i (by omega)
      rw [hE] at h1
      obtain ⟨_, hlen', hcell⟩ := World.cells?_some h1
      obtain ⟨q, rfl, hq⟩ := each _ _ _ hlen' h2
      refine ⟨q, hq, fun k hk => ?_⟩
      have := hcell k hk
      rw [add_add] at this
      exact this
    obtain ⟨q, hq⟩ := choose_lt ea
    have hll : ((List.range len).map q).length = len := by simp
    have hget : ∀ t, t < len → ((List.range len).map q).getD t default = q t := fun t ht => by simp [List.getD, ht]
    have hspot : 0 < len → s = none := fun h0 => by
      have h1 := (hq 0 h0).2 0 hn
      have h2 : (cell (q 0))[0]? = some ((cell (q 0))[0]'(by rw [hlen]; exact hn)) := List.getElem?_eq_getElem _
      rw [h2] at h1
      simpa [Addr.add] using World.cell?_spot h1
    refine ⟨some ⟨b, o, s⟩, _, b, o, (List.range len).map q, by rw [hll], by rw [hll]; exact hl, by rw [hll]; unfold maxLen at hm; omega, fun h0 => ?_, fun t ht => ?_⟩
    · rw [hll] at h0
      rw [hspot h0]
    · rw [hll] at ht
      rw [hget t ht]
      have hs := hspot (by omega)
      subst hs
      have ad : ∀ j, (⟨b, o, none⟩ : Addr).add j = ⟨b, o + j, none⟩ := fun j => by unfold Addr.add; split <;> simp_all
      exact ⟨(hq t ht).1, fun k hk => by rw [← (hq t ht).2 k hk, ad, Nat.add_assoc]⟩

theorem list2 {α : Type} {l : List α} (h : l.length = 2) : ∃ a b, l = [a, b] := by
  match l, h with
  | [a, b], _ => exact ⟨a, b, rfl⟩
theorem list4 {α : Type} {l : List α} (h : l.length = 4) : ∃ a b c d, l = [a, b, c, d] := by
  match l, h with
  | [a, b, c, d], _ => exact ⟨a, b, c, d, rfl⟩
theorem list6 {α : Type} {l : List α} (h : l.length = 6) : ∃ a b c d e f, l = [a, b, c, d, e, f] := by
  match l, h with
  | [a, b, c, d, e, f], _ => exact ⟨a, b, c, d, e, f, rfl⟩

theorem view_key {fuel : Nat} {cs : List Value} {x : DataW H × List MemPlace} (hl : cs.length = 2) (hf : DataW.trod enc Try.prog W 0 (fun _ => true) true fuel 103 cs = some x) : ∃ k : Int × Int, cs = [.int .i32 k.1, .int .i64 k.2] ∧ ((-2147483648 ≤ k.1 ∧ k.1 ≤ 2147483647) ∧ (-9223372036854775808 ≤ k.2 ∧ k.2 ≤ 9223372036854775807)) := by
  obtain ⟨xs, n, _, rfl, _, hxl, hg⟩ := DataW.trod_struct Try.underlying103 hf
  obtain ⟨y0, y1, rfl⟩ := list2 hxl
  obtain ⟨v0, v1, rfl⟩ := list2 hl
  have g0 := hg 0 _ rfl
  have g1 := hg 1 _ rfl
  simp [Try.cells21, Try.cells2] at g0 g1
  obtain ⟨n0, e0, _, w0⟩ := DataW.trod_int Try.underlying21 g0
  obtain ⟨n1, e1, _, w1⟩ := DataW.trod_int Try.underlying2 g1
  simp only [List.cons.injEq, and_true] at e0 e1
  subst e0 e1
  exact ⟨(n0, n1), rfl, bounds_i32 w0, bounds_i64 w1⟩
theorem view_keys {fuel : Nat} {cs : List Value} {x : DataW H × List MemPlace} (hf : DataW.trod enc Try.prog W 0 (fun _ => true) true fuel 79 cs = some x) : ∃ v l, cs = [v] ∧ SeesK W v l ∧ OkK l := by
  obtain ⟨a0, cap, gb, ob, l, rfl, h1, h2, h3, h4⟩ := view_list (α := Int × Int) Try.underlying79 Try.cells103 (by decide) (fun k => [.int .i32 k.1, .int .i64 k.2]) (fun k => (-2147483648 ≤ k.1 ∧ k.1 ≤ 2147483647) ∧ (-9223372036854775808 ≤ k.2 ∧ k.2 ≤ 9223372036854775807)) (fun _ => rfl) (fun _ _ _ hl hf => view_key hl hf) hf
  refine ⟨_, l, rfl, ⟨a0, cap, gb, ob, rfl, h1, h2, h3, fun t ht => ⟨(h4 t ht).2 0 (by omega), (h4 t ht).2 1 (by omega)⟩⟩, fun k hk => ?_⟩
  obtain ⟨i, hi, rfl⟩ := List.getElem_of_mem hk
  have := (h4 i hi).1
  have e : l.getD i default = l[i] := by simp [List.getD, hi]
  rw [e] at this
  exact this

abbrev TV := TxnD × Value × Value × Value × Value
instance : Inhabited TV := ⟨(dT, .slice none 0 0, .slice none 0 0, .slice none 0 0, .slice none 0 0)⟩
theorem view_txn {fuel : Nat} {cs : List Value} {x : DataW H × List MemPlace} (hl : cs.length = 6) (hf : DataW.trod enc Try.prog W 0 (fun _ => true) true fuel 81 cs = some x) :
    ∃ p : TV, cs = [.int .i64 p.1.ses, .int .i64 p.1.req, p.2.1, p.2.2.1, p.2.2.2.1, p.2.2.2.2] ∧ (SeesT W #[.int .i64 p.1.ses, .int .i64 p.1.req, p.2.1, p.2.2.1, p.2.2.2.1, p.2.2.2.2] p.1 ∧ FitT p.1 ∧ p.1.args.length ≤ 9223372036854775807) := by
  obtain ⟨xs, n, _, rfl, _, hxl, hg⟩ := DataW.trod_struct Try.underlying81 hf
  obtain ⟨y0, y1, y2, y3, y4, y5, rfl⟩ := list6 hxl
  obtain ⟨v0, v1, v2, v3, v4, v5, rfl⟩ := list6 hl
  have g0 := hg 0 _ rfl
  have g1 := hg 1 _ rfl
  have g2 := hg 2 _ rfl
  have g3 := hg 3 _ rfl
  have g4 := hg 4 _ rfl
  have g5 := hg 5 _ rfl
  simp [Try.cells2, Try.cells34, Try.cells78, Try.cells79] at g0 g1 g2 g3 g4 g5
  obtain ⟨n0, e0, _, w0⟩ := DataW.trod_int Try.underlying2 g0
  obtain ⟨n1, e1, _, w1⟩ := DataW.trod_int Try.underlying2 g1
  obtain ⟨u2, zs, e2, hs2, hb2⟩ := view_bytes g2
  obtain ⟨u3, az, e3, hs3, hb3, hl3⟩ := view_ints g3
  obtain ⟨u4, rs, e4, hs4, hb4⟩ := view_keys g4
  obtain ⟨u5, ws, e5, hs5, hb5⟩ := view_keys g5
  simp only [List.cons.injEq, and_true] at e0 e1 e2 e3 e4 e5
  subst e0 e1 e2 e3 e4 e5
  exact ⟨(⟨n0, n1, zs, az, rs, ws⟩, v2, v3, v4, v5), rfl, ⟨_, _, _, _, rfl, hs2, hs3, hs4, hs5⟩, ⟨bounds_i64 w0, bounds_i64 w1, hb2, hb3, hb4, hb5⟩, hl3⟩
theorem view_txns {fuel : Nat} {cs : List Value} {x : DataW H × List MemPlace} (hf : DataW.trod enc Try.prog W 0 (fun _ => true) true fuel 31 cs = some x) : ∃ v l, cs = [v] ∧ SeesTs W v l ∧ (∀ t ∈ l, FitT t) ∧ ∀ t ∈ l, t.args.length ≤ 9223372036854775807 := by
  obtain ⟨a0, cap, gb, ob, l, rfl, h1, h2, h3, h4⟩ := view_list (α := TV) Try.underlying31 Try.cells81 (by decide) (fun p => [.int .i64 p.1.ses, .int .i64 p.1.req, p.2.1, p.2.2.1, p.2.2.2.1, p.2.2.2.2]) (fun p => SeesT W #[.int .i64 p.1.ses, .int .i64 p.1.req, p.2.1, p.2.2.1, p.2.2.2.1, p.2.2.2.2] p.1 ∧ FitT p.1 ∧ p.1.args.length ≤ 9223372036854775807) (fun _ => rfl) (fun _ _ _ hl hf => view_txn hl hf) hf
  have hm : ∀ t ∈ l.map (·.1), FitT t ∧ t.args.length ≤ 9223372036854775807 := fun t ht => by
    obtain ⟨p, hp, rfl⟩ := List.mem_map.1 ht
    obtain ⟨i, hi, rfl⟩ := List.getElem_of_mem hp
    have := (h4 i hi).1
    have e : l.getD i default = l[i] := by simp [List.getD, hi]
    rw [e] at this
    exact this.2
  refine ⟨_, l.map (·.1), rfl, ⟨a0, cap, gb, ob, by simp, by simpa using h1, by simpa using h2, by simpa using h3, fun t ht => ?_⟩, fun t ht => (hm t ht).1, fun t ht => (hm t ht).2⟩
  have htl : t < l.length := by simpa using ht
  obtain ⟨hk, hc⟩ := h4 t htl
  have e : l.getD t default = l[t] := by simp [List.getD, htl]
  have e2 : (l.map (·.1)).getD t dT = l[t].1 := by simp [List.getD, htl]
  rw [e] at hk hc
  rw [e2]
  exact ⟨_, _, _, _, hc 0 (by omega), hc 1 (by omega), hc 2 (by omega), hc 3 (by omega), hc 4 (by omega), hc 5 (by omega), hk.1⟩
/-- An entry as an argument. -/
theorem view_entry {r : Reach} {b0 : Nat} {v : Value} {d : DataW H} {p : List MemPlace} (hval : Value.okWide Try.prog W r b0 33 v) (hf : DataW.Trod enc Try.prog W 0 (fun _ => true) true 33 v d p) : ∃ cs e, v = .agg cs ∧ SeesE W cs e ∧ FitE e := by
  obtain ⟨cs, rfl, hsz⟩ := okWide_struct Try.underlying33 hval
  obtain ⟨fuel, hf⟩ := hf
  rw [Try.cells33] at hsz
  have e : (Value.agg cs).cells.toList = cs.toList := by simp [Value.cells]
  rw [e] at hf
  obtain ⟨xs, n, _, _, _, hxl, hg⟩ := DataW.trod_struct Try.underlying33 hf
  obtain ⟨y0, y1, y2, y3, rfl⟩ := list4 hxl
  obtain ⟨v0, v1, v2, v3, hcs⟩ := list4 (l := cs.toList) (by simpa using hsz)
  rw [hcs] at hg
  have g0 := hg 0 _ rfl
  have g1 := hg 1 _ rfl
  have g2 := hg 2 _ rfl
  have g3 := hg 3 _ rfl
  simp [Try.cells2, Try.cells3, Try.cells31] at g0 g1 g2 g3
  obtain ⟨n0, e0, _, w0⟩ := DataW.trod_int Try.underlying3 g0
  obtain ⟨n1, e1, _, w1⟩ := DataW.trod_int Try.underlying3 g1
  obtain ⟨n2, e2, _, w2⟩ := DataW.trod_int Try.underlying2 g2
  obtain ⟨u3, l, e3, hs, hft, hfa⟩ := view_txns g3
  simp only [List.cons.injEq, and_true] at e0 e1 e2 e3
  subst e0 e1 e2 e3
  refine ⟨cs, ⟨n0, n1, n2, l⟩, rfl, ⟨v3, ?_, hs⟩, ⟨bounds_i64 w0, bounds_i64 w1, bounds_i64 w2, hft, hfa⟩⟩
  have : cs = (cs.toList).toArray := by simp
  rw [this, hcs]
/-- A transaction as an argument. -/
theorem view_txnA {r : Reach} {b0 : Nat} {v : Value} {d : DataW H} {p : List MemPlace} (hval : Value.okWide Try.prog W r b0 81 v) (hf : DataW.Trod enc Try.prog W 0 (fun _ => true) true 81 v d p) : ∃ cs t, v = .agg cs ∧ SeesT W cs t ∧ FitT t ∧ t.args.length ≤ 9223372036854775807 := by
  obtain ⟨cs, rfl, hsz⟩ := okWide_struct Try.underlying81 hval
  obtain ⟨fuel, hf⟩ := hf
  rw [Try.cells81] at hsz
  have e : (Value.agg cs).cells.toList = cs.toList := by simp [Value.cells]
  rw [e] at hf
  obtain ⟨q, hq, hs, hft, hl⟩ := view_txn (by simpa using hsz) hf
  refine ⟨cs, q.1, rfl, ?_, hft, hl⟩
  have : cs = (cs.toList).toArray := by simp
  rw [this, hq]
  exact hs
end
end Go.Proofs.Ytoddemcmmijoaaa

/- Bytes as the row hands them over, with what they read as; the bulk of what is read. -/
namespace Go.Proofs.Ytoddemcmmijoaaa
open Go.ChangeShapes Go.WideShapes Go.ChangeAt Go.RowKit
set_option maxRecDepth 100000

/-- Bytes that came in: what they are; that all of them are bytes; and what they read as. -/
theorem view_bytesD {H : Type} {enc : TypeId × Value → H} {W : World} {fuel : Nat} {a0 : Option Addr} {len cap : Nat} {d : DataW H} {p : List MemPlace}
    (hf : DataW.trod enc Try.prog W 0 (fun _ => true) true fuel 34 (Value.slice a0 len cap).cells.toList = some (d, p)) :
    ∃ zs : List Int, zs.length = len ∧ Sees W .u8 (.slice a0 len cap) zs ∧ Byt zs ∧ ((d = .nil ∧ len = 0) ∨ ∃ es sp, d = .slice es sp ∧ es.length = len) := by
  rcases open_ints Try.underlying34 Try.underlying5 (by kernel_rfl) hf with ⟨hcs, hx⟩ | ⟨x, l, c, zs, hcs, _, hl, hm, hz, hx, hcell, hwz⟩
  · simp [Value.cells] at hcs
    obtain ⟨rfl, rfl, rfl⟩ := hcs
    simp only [Prod.mk.injEq] at hx
    exact ⟨[], rfl, Sees.nil _ _, (fun b hb => by cases hb), .inl ⟨hx.1, rfl⟩⟩
  · simp [Value.cells] at hcs
    obtain ⟨rfl, rfl, rfl⟩ := hcs
    simp only [if_true] at hz
    simp only [Prod.mk.injEq] at hx
    have hlen : (zs.take len).length = len := by simp; omega
    refine ⟨zs.take len, hlen, ⟨_, cap, by rw [hlen], by rw [hlen]; exact hl, (fun h => by cases h), fun a h t ht => ?_⟩, fun b hb => bounds_u8 (hwz b (List.mem_of_mem_take hb)), .inr ⟨_, _, hx.1, by simp [lits]; omega⟩⟩
    obtain rfl := Option.some.inj h
    rw [hlen] at ht
    rw [hcell t (by omega)]
    simp [List.getD, ht]

theorem bulk_one {H : Type} (d : DataW H) : 1 ≤ Rows.uptoBulk d := by
  cases d with
  | lit l => cases l <;> simp [Rows.uptoBulk]
  | nil => simp [Rows.uptoBulk]
  | ptr d => simp [Rows.uptoBulk]
  | slice elems spare => simp [Rows.uptoBulk]
  | agg parts => simp [Rows.uptoBulk]
  | iface t d => simp [Rows.uptoBulk]
  | map entries => simp [Rows.uptoBulk]
  | held h => simp [Rows.uptoBulk]
theorem bulk_length {H : Type} (l : List (DataW H)) : l.length ≤ Rows.uptoBulkAll l := by
  induction l with
  | nil => simp [Rows.uptoBulkAll]
  | cons x r ih => have := bulk_one x; simp only [Rows.uptoBulkAll, List.length_cons]; omega
theorem bulk_mem {H : Type} {d : DataW H} {l : List (DataW H)} (h : d ∈ l) : Rows.uptoBulk d ≤ Rows.uptoBulkAll l := by
  induction l with
  | nil => cases h
  | cons x r ih =>
    simp only [Rows.uptoBulkAll]
    cases List.mem_cons.1 h with
    | inl e => subst e; omega
    | inr e => have := ih e; omega
/-- How long a slice is, by its bulk. -/
theorem bulk_slice {H : Type} {d : DataW H} {len : Nat} (hd : (d = .nil ∧ len = 0) ∨ ∃ es sp, d = .slice es sp ∧ es.length = len) : len ≤ Rows.uptoBulk d := by
  rcases hd with ⟨_, rfl⟩ | ⟨es, sp, rfl, rfl⟩
  · omega
  · have := bulk_length es
    simp only [Rows.uptoBulk]
    omega
theorem small_two {H : Type} {d0 d1 : DataW H} (hk : Rows.uptoSmall H [d0, d1] = true) : Rows.uptoBulk d0 + Rows.uptoBulk d1 ≤ 1048576 := by
  have h : Rows.uptoBulkAll [d0, d1] ≤ 1048576 := of_decide_eq_true hk
  simp only [Rows.uptoBulkAll] at h
  omega
theorem small_three {H : Type} {d0 d1 d2 : DataW H} (hk : Rows.uptoSmall H [d0, d1, d2] = true) : Rows.uptoBulk d0 + Rows.uptoBulk d1 + Rows.uptoBulk d2 ≤ 1048576 := by
  have h : Rows.uptoBulkAll [d0, d1, d2] ≤ 1048576 := of_decide_eq_true hk
  simp only [Rows.uptoBulkAll] at h
  omega

end Go.Proofs.Ytoddemcmmijoaaa
