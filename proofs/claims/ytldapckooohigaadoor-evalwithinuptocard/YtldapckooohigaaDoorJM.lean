/- Several texts as one. -/
import Derived.Test.YtldapckooohigaaDoorRows
import Derived.Test.YtldapckooohigaaDoorJK
import Derived.Test.YtldapckooohigaaDoorJW
import Derived.Test.YtldapckooohigaaDoorJSC
import Derived.ProofKit
import Derived.LaidMore
import Derived.OpenShut
import Derived.ShutString
import Derived.ChangeOld
import Derived.SizedLaws
import Derived.JoinedCond
import Derived.Deep.Slices
import Derived.Deep.SlicePairs
import Derived.Carry
import Derived.Stop.Joined
import Derived.Test.YtldapckooohigaaDoorJC

/- How the arguments, as the rows hand them over, are seen by the walks; what the listed table gives them. -/
namespace Go.Proofs.YtldapckooohigaaDoor
open Go.ChangeShapes Go.WideShapes Go.ChangeAt Go.RowKit Go.Deep
set_option maxRecDepth 100000

theorem ownK : ownKnob Tryd.prog.godebug = none := by kernel_rfl
theorem laidOut : laidOutB Tryd.prog = true := by kernel_rfl
theorem gTab : Tryd.prog.globalNamed "trivet/code.sizes" = some 0 := by kernel_rfl
theorem tTab : (Tryd.prog.globals[0]?).map (·.type) = some 135 := by kernel_rfl
theorem Tryd.cells5 : Tryd.prog.cellsOf 5 = 1 := by kernel_rfl
theorem Tryd.cells3 : Tryd.prog.cellsOf 3 = 1 := by kernel_rfl
theorem Tryd.cells89 : Tryd.prog.cellsOf 89 = 5 := by kernel_rfl
theorem bytes5 : Tryd.prog.bytesOf 5 = 1 := by kernel_rfl
theorem bytes28 : Tryd.prog.bytesOf 89 = 40 := by kernel_rfl
abbrev theLaid : List (String × DataW Unit) := [("trivet/code.sizes", Rows.laid_trivet_code_sizes)]

/-- What the listed table gives: its cells. -/
theorem of_laid {W : World} (h : laidMetH Tryd.prog theLaid W) : Tab W := by
  rw [MakeChecks.laidMetH_plain _ _ _ (by kernel_rfl)] at h
  obtain ⟨ps, ⟨g0, t0, cs0, f0, p0, q0, hg0, ht0, hv0, hd0, _, _⟩, _, _⟩ := h
  obtain rfl := Option.some.inj (gTab.symm.trans hg0)
  obtain rfl := Option.some.inj (tTab.symm.trans ht0)
  obtain ⟨xs, m1, rfl, hx1, hlen, hn, hel⟩ := DataW.trod_array Tryd.underlying135 hd0
  simp only [Prod.mk.injEq] at hx1
  have hl : xs.map (·.1) = szL.map fun v => (.lit (.int .i64 v) : DataW Unit) := by
    have := hx1.1
    simp only [Rows.laid_trivet_code_sizes, DataW.agg.injEq] at this
    rw [← this]
    rfl
  intro i hi
  rw [World.var?_cell hg0 hv0 i]
  have hiu := hel i hi
  rw [List.getElem?_eq_getElem (by omega)] at hiu
  obtain ⟨k, e1, e2, _⟩ := DataW.trod_int Tryd.underlying3 hiu
  have hk : (.lit (.int .i64 k) : DataW Unit) = .lit (.int .i64 (szL.getD i 0)) := by
    have h1 : (xs.map (·.1))[i]? = some (.lit (.int .i64 k)) := by rw [List.getElem?_map, List.getElem?_eq_getElem (by omega), e2]; rfl
    have hdl : i < szL.length := hi
    rw [hl, List.getElem?_map, List.getElem?_eq_getElem hdl] at h1
    simp only [Option.map_some, Option.some.injEq] at h1
    rw [← h1, List.getD, List.getElem?_eq_getElem hdl]
    rfl
  simp only [DataW.lit.injEq, Lit.int.injEq, true_and] at hk
  rw [Tryd.cells3, Nat.mul_one] at e1
  have h2 : cs0.toList[i]? = some (.int .i64 k) := by
    have := congrArg List.head? e1
    simpa [List.head?_take, List.head?_drop] using this
  rw [← Array.getElem?_toList, h2, hk]

theorem door_met (os : Os) (args : Array Value) : laidMetH Tryd.prog theLaid ((World.doorLaid Tryd.prog 400 os).forCall (fun _ _ => 0) ⟨#[], args, []⟩).memory :=
  laidMetH_of_parts3 (fuel := 8) (laidMet_of_run' 8 (by kernel_rfl) (by kernel_rfl)) (by kernel_rfl) (by kernel_rfl)

theorem bnd_i64 {n : Int} (h : (Lit.int .i64 n).wf = true) : -9223372036854775808 ≤ n ∧ n ≤ 9223372036854775807 := by
  have e1 : IntKind.i64.min = -9223372036854775808 := by decide
  have e2 : IntKind.i64.max = 9223372036854775807 := by decide
  simp only [Lit.wf, e1, e2, Bool.and_eq_true, decide_eq_true_eq] at h
  exact h
theorem bnd_u8 {n : Int} (h : (Lit.int .u8 n).wf = true) : 0 ≤ n ∧ n ≤ 255 := by
  have e1 : IntKind.u8.min = 0 := by decide
  have e2 : IntKind.u8.max = 255 := by decide
  simp only [Lit.wf, e1, e2, Bool.and_eq_true, decide_eq_true_eq] at h
  exact h
theorem list5 {α : Type} {l : List α} (h : l.length = 5) : ∃ a b c d e, l = [a, b, c, d, e] := by
  match l, h with
  | [a, b, c, d, e], _ => exact ⟨a, b, c, d, e, rfl⟩
theorem list1 {α : Type} {l : List α} (h : l.length = 1) : ∃ a, l = [a] := by
  match l, h with
  | [a], _ => exact ⟨a, rfl⟩
theorem add_add (a : Addr) (p t : Nat) : (a.add p).add t = a.add (p + t) := by
  unfold Addr.add
  by_cases hp : p = 0
  · subst hp; simp
  · by_cases ht : t = 0
    · subst ht; simp [hp]
    · simp [hp, ht, Nat.add_assoc]

/-- No list within it takes more bytes than the row allows. -/
def Light {H : Type} (t : TypeId) (d : DataW H) : Prop := ∀ n ∈ d.weights Tryd.prog t, n ≤ reachBytes
theorem mem_each {H : Type} {P : Program} : ∀ (ts : List TypeId) (ds : List (DataW H)) (i : Nat) (t : TypeId) (d : DataW H) (n : Nat), ts[i]? = some t → ds[i]? = some d → n ∈ d.weights P t → n ∈ DataW.weightsEach P ts ds
  | [], _, i, t, d, n, h, _, _ => by simp at h
  | _ :: _, [], i, t, d, n, _, h, _ => by simp at h
  | t0 :: ts, d0 :: ds, 0, t, d, n, h1, h2, h3 => by
    simp only [List.getElem?_cons_zero, Option.some.injEq] at h1 h2
    subst h1 h2
    rw [DataW.weightsEach]
    exact List.mem_append_left _ h3
  | t0 :: ts, d0 :: ds, i + 1, t, d, n, h1, h2, h3 => by
    rw [DataW.weightsEach]
    exact List.mem_append_right _ (mem_each ts ds i t d n (by simpa using h1) (by simpa using h2) h3)
theorem mem_all {H : Type} {P : Program} {e : TypeId} : ∀ (ds : List (DataW H)) (d : DataW H) (n : Nat), d ∈ ds → n ∈ d.weights P e → n ∈ DataW.weightsAll P e ds
  | [], d, n, h, _ => by cases h
  | d0 :: ds, d, n, h, hn => by
    rw [DataW.weightsAll]
    rcases List.mem_cons.1 h with rfl | h
    · exact List.mem_append_left _ hn
    · exact List.mem_append_right _ (mem_all ds d n h hn)
theorem light_field {H : Type} {T : TypeId} {fs : Array Field} (hT : Tryd.prog.underlying T = some (.struct fs)) {ds : List (DataW H)} (h : Light T (.agg ds)) {i : Nat} {t : TypeId} {d : DataW H} (ht : (fs.toList.map (·.type))[i]? = some t) (hd : ds[i]? = some d) : Light t d := fun n hn => h n (by
  simp only [DataW.weights, hT]
  exact mem_each _ _ i t d n ht hd hn)
theorem light_arg {H : Type} {P : Program} {ts : List TypeId} {ds : List (DataW H)} (h : (DataW.weightsEach P ts ds).all (· ≤ reachBytes) = true) {i : Nat} {t : TypeId} {d : DataW H} (ht : ts[i]? = some t) (hd : ds[i]? = some d) : ∀ n ∈ d.weights P t, n ≤ reachBytes := fun n hn => of_decide_eq_true (List.all_eq_true.mp h n (mem_each _ _ i t d n ht hd hn))
theorem light_elem {H : Type} {T E : TypeId} (hT : Tryd.prog.underlying T = some (.slice E)) {es sp : List (DataW H)} (h : Light T (.slice es sp)) {d : DataW H} (hd : d ∈ es) : Light E d := fun n hn => h n (by
  simp only [DataW.weights, hT]
  exact List.mem_cons_of_mem _ (List.mem_append_left _ (mem_all _ d n hd hn)))
theorem light_len {H : Type} {T E : TypeId} (hT : Tryd.prog.underlying T = some (.slice E)) {es sp : List (DataW H)} (h : Light T (.slice es sp)) : es.length * Tryd.prog.bytesOf E ≤ 140737488351232 := by
  have h1 := h ((es.length + sp.length) * Tryd.prog.bytesOf E) (by simp only [DataW.weights, hT]; exact List.mem_cons_self ..)
  rw [Nat.add_mul] at h1
  simp only [reachBytes] at h1
  omega

section
variable {H : Type} {enc : TypeId × Value → H} {W : World}
theorem view_listR {α : Type} [Inhabited α] {T E n M : Nat} (hM : ∀ k, k * Tryd.prog.bytesOf E ≤ 140737488351232 → k ≤ M) (hT : Tryd.prog.underlying T = some (.slice E)) (hE : Tryd.prog.cellsOf E = n) (hn : 0 < n) (cell : α → List Value) (ok : α → Prop) (hlen : ∀ a, (cell a).length = n)
    (each : ∀ fuel cs (x : DataW H × List MemPlace), cs.length = n → DataW.trod enc Tryd.prog W 0 (fun _ => true) true fuel E cs = some x → Light E x.1 → ∃ a, cs = cell a ∧ ok a)
    {fuel : Nat} {cs : List Value} {x : DataW H × List MemPlace} (hf : DataW.trod enc Tryd.prog W 0 (fun _ => true) true fuel T cs = some x) (hB : Light T x.1) :
    ∃ (a0 : Option Addr) (cap gb ob : Nat) (l : List α), cs = [.slice a0 l.length cap] ∧ l.length ≤ cap ∧ l.length ≤ M ∧ (a0 = none → cap = 0) ∧ (0 < l.length → a0 = some ⟨gb, ob, none⟩) ∧ ∀ t, t < l.length → ok (l.getD t default) ∧ ∀ k, k < n → W.cell? ⟨gb, ob + t * n + k, none⟩ = (cell (l.getD t default))[k]? := by
  rcases open_slice hT hf with ⟨rfl, hx⟩ | ⟨a, len, c, m, fl, D, Pl, rfl, _, hl, hm, hmm, rfl, hx⟩
  · exact ⟨none, 0, 0, 0, [], rfl, by simp, by simp, (fun _ => rfl), (fun h => absurd h (by simp)), fun t h => absurd h (by simp)⟩
  · simp only [if_true] at hmm
    subst hmm
    obtain ⟨b, o, s⟩ := a
    have hbl := hM _ (light_len (H := H) hT hB)
    simp only [List.length_map, List.length_range] at hbl
    have hbe : ∀ i, i < len → Light E (D i) := fun i hi => light_elem hT hB (List.mem_map.2 ⟨i, by simpa using hi, rfl⟩)
    have ea : ∀ i, i < len → ∃ q : α, ok q ∧ ∀ k, k < n → W.cell? ((⟨b, o, s⟩ : Addr).add (i * n + k)) = (cell q)[k]? := by
      intro i hi
      obtain ⟨cs', h1, h2⟩ := hx i (by omega)
      rw [hE] at h1
      obtain ⟨_, hlen', hcell⟩ := World.cells?_some h1
      obtain ⟨q, rfl, hq⟩ := each _ _ _ hlen' h2 (hbe i hi)
      refine ⟨q, hq, fun k hk => ?_⟩
      have := hcell k hk
      rw [add_add] at this
      exact this
    obtain ⟨q, hq⟩ := choose_lt ea
    have hll : ((List.range len).map q).length = len := by simp
    have hget : ∀ t, t < len → ((List.range len).map q).getD t default = q t := fun t ht => by simp [List.getD, ht]
    have hspot : 0 < len → s = none := fun h0 => by
      have h1 := (hq 0 h0).2 0 hn
      have h2 : (cell (q 0))[0]? = some ((cell (q 0))[0]'(by rw [hlen]; exact hn)) := List.getElem?_eq_getElem _
      rw [h2] at h1
      simpa [Addr.add] using World.cell?_spot h1
    refine ⟨some ⟨b, o, s⟩, _, b, o, (List.range len).map q, by rw [hll], by rw [hll]; exact hl, by rw [hll]; omega, (fun h => by cases h), fun h0 => ?_, fun t ht => ?_⟩
    · rw [hll] at h0
      rw [hspot h0]
    · rw [hll] at ht
      rw [hget t ht]
      have hs := hspot (by omega)
      subst hs
      have ad : ∀ j, (⟨b, o, none⟩ : Addr).add j = ⟨b, o + j, none⟩ := fun j => by unfold Addr.add; split <;> simp_all
      exact ⟨(hq t ht).1, fun k hk => by rw [← (hq t ht).2 k hk, ad, Nat.add_assoc]⟩

instance : Inhabited Ins := ⟨⟨0, 0, 0, 0, 0⟩⟩
def OkXi (x : Ins) : Prop := I64 x.ad ∧ I64 x.op ∧ I64 x.a ∧ I64 x.b ∧ I64 x.im
theorem view_byte {fuel : Nat} {cs : List Value} {x : DataW H × List MemPlace} (hl : cs.length = 1) (hf : DataW.trod enc Tryd.prog W 0 (fun _ => true) true fuel 5 cs = some x) : ∃ o : Int, cs = yC o ∧ 0 ≤ o ∧ o ≤ 255 := by
  obtain ⟨v0, rfl⟩ := list1 hl
  obtain ⟨n, e, _, w⟩ := DataW.trod_int Tryd.underlying5 hf
  simp only [List.cons.injEq, and_true] at e
  subst e
  exact ⟨n, rfl, bnd_u8 w⟩
theorem view_ins {fuel : Nat} {cs : List Value} {x : DataW H × List MemPlace} (hl : cs.length = 5) (hf : DataW.trod enc Tryd.prog W 0 (fun _ => true) true fuel 89 cs = some x) : ∃ o : Ins, cs = iC o ∧ OkXi o := by
  obtain ⟨v0, v1, v2, v3, v4, rfl⟩ := list5 hl
  obtain ⟨xs, n, _, _, _, hxl, hg⟩ := DataW.trod_struct Tryd.underlying89 hf
  obtain ⟨y0, y1, y2, y3, y4, rfl⟩ := list5 hxl
  have g0 := hg 0 _ rfl
  have g1 := hg 1 _ rfl
  have g2 := hg 2 _ rfl
  have g3 := hg 3 _ rfl
  have g4 := hg 4 _ rfl
  simp [Tryd.cells3, Tryd.cells2] at g0 g1 g2 g3 g4
  obtain ⟨n0, e0, _, w0⟩ := DataW.trod_int Tryd.underlying3 g0
  obtain ⟨n1, e1, _, w1⟩ := DataW.trod_int Tryd.underlying3 g1
  obtain ⟨n2, e2, _, w2⟩ := DataW.trod_int Tryd.underlying3 g2
  obtain ⟨n3, e3, _, w3⟩ := DataW.trod_int Tryd.underlying3 g3
  obtain ⟨n4, e4, _, w4⟩ := DataW.trod_int Tryd.underlying2 g4
  simp only [List.cons.injEq, and_true] at e0 e1 e2 e3 e4
  subst e0 e1 e2 e3 e4
  exact ⟨⟨n0, n1, n2, n3, n4⟩, rfl, bnd_i64 w0, bnd_i64 w1, bnd_i64 w2, bnd_i64 w3, bnd_i64 w4⟩
theorem sees_of_view {α : Type} [Inhabited α] {c : α → List Value} {k : Nat} {a0 : Option Addr} {cap gb ob : Nat} {l : List α} (h1 : l.length ≤ cap) (h2 : l.length ≤ 9223372036854775807) (h3 : a0 = none → cap = 0) (h4 : 0 < l.length → a0 = some ⟨gb, ob, none⟩) (h5 : ∀ t, t < l.length → ∀ j, j < k → W.cell? ⟨gb, ob + t * k + j, none⟩ = (c (l.getD t default))[j]?) : SeesL c k W (.slice a0 l.length cap) l :=
  ⟨a0, cap, gb, ob, rfl, h1, h2, h3, h4, fun t x hx j hj => by
    obtain ⟨ht, rfl⟩ := List.getElem?_eq_some_iff.1 hx
    rw [h5 t ht j hj]
    simp [List.getD, ht]⟩
theorem view_bytesArg {v : Value} {d : DataW H} {p : List MemPlace} {a : Option Addr} {n c : Nat} (hv : v = .slice a n c) (hf : DataW.Trod enc Tryd.prog W 0 (fun _ => true) true 31 v d p) (hB : Light 31 d) :
    ∃ l : List Int, SeesL yC 1 W v l ∧ Byt l ∧ l.length ≤ 140737488351232 := by
  obtain ⟨fuel, hf⟩ := hf
  have e : v.cells.toList = [v] := by rw [hv]; rfl
  rw [e] at hf
  obtain ⟨a0, cap, gb, ob, l, h0, h1, h2, hc, h3, h4⟩ := view_listR (M := 140737488351232) (fun k h => by rw [bytes5] at h; omega) (α := Int) Tryd.underlying31 Tryd.cells5 (by decide) yC (fun o => 0 ≤ o ∧ o ≤ 255) (fun _ => rfl) (fun _ _ _ hl hf _ => view_byte hl hf) hf hB
  simp only [List.cons.injEq, and_true] at h0
  subst h0
  refine ⟨l, sees_of_view h1 (by omega) hc h3 fun t ht => (h4 t ht).2, fun b hb => ?_, h2⟩
  obtain ⟨t, ht, rfl⟩ := List.mem_iff_getElem.1 hb
  have := (h4 t ht).1
  simpa [List.getD, ht] using this
theorem view_insArg {v : Value} {d : DataW H} {p : List MemPlace} {a : Option Addr} {n c : Nat} (hv : v = .slice a n c) (hf : DataW.Trod enc Tryd.prog W 0 (fun _ => true) true 78 v d p) (hB : Light 78 d) :
    ∃ l : List Ins, SeesL iC 5 W v l ∧ (∀ x ∈ l, OkXi x) ∧ l.length ≤ 3518437208883 := by
  obtain ⟨fuel, hf⟩ := hf
  have e : v.cells.toList = [v] := by rw [hv]; rfl
  rw [e] at hf
  obtain ⟨a0, cap, gb, ob, l, h0, h1, h2, hc, h3, h4⟩ := view_listR (M := 3518437208883) (fun k h => by rw [bytes28] at h; omega) (α := Ins) Tryd.underlying78 Tryd.cells89 (by decide) iC OkXi (fun _ => rfl) (fun _ _ _ hl hf _ => view_ins hl hf) hf hB
  simp only [List.cons.injEq, and_true] at h0
  subst h0
  refine ⟨l, sees_of_view h1 (by omega) hc h3 fun t ht => (h4 t ht).2, fun b hb => ?_, h2⟩
  obtain ⟨t, ht, rfl⟩ := List.mem_iff_getElem.1 hb
  have := (h4 t ht).1
  simpa [List.getD, ht] using this
theorem view_intArg {r : Reach} {b0 : Nat} {v : Value} {d : DataW H} {p : List MemPlace} (hval : Value.okWide Tryd.prog W r b0 3 v) (hf : DataW.Trod enc Tryd.prog W 0 (fun _ => true) true 3 v d p) : ∃ n : Int, v = .int .i64 n ∧ I64 n := by
  obtain ⟨n, rfl⟩ := okWide_int Tryd.underlying3 hval
  obtain ⟨fuel, hf⟩ := hf
  obtain ⟨m, e, _, w⟩ := DataW.trod_int Tryd.underlying3 hf
  have e' : n = m := by simpa [Value.cells] using e
  subst e'
  exact ⟨n, rfl, bnd_i64 w⟩
end
end Go.Proofs.YtldapckooohigaaDoor

/- A transaction as an argument. -/
namespace Go.Proofs.YtldapckooohigaaDoor
open Go.ChangeShapes Go.WideShapes Go.ChangeAt Go.RowKit Go.Deep
set_option maxRecDepth 100000

theorem Tryd.cells31 : Tryd.prog.cellsOf 31 = 1 := by kernel_rfl
theorem Tryd.cells32 : Tryd.prog.cellsOf 32 = 1 := by kernel_rfl
theorem Tryd.cells33 : Tryd.prog.cellsOf 33 = 1 := by kernel_rfl
theorem Tryd.cells35 : Tryd.prog.cellsOf 35 = 6 := by kernel_rfl
theorem bytes2 : Tryd.prog.bytesOf 2 = 8 := by kernel_rfl
theorem bytes101 : Tryd.prog.bytesOf 38 = 16 := by kernel_rfl
theorem list2 {α : Type} {l : List α} (h : l.length = 2) : ∃ a b, l = [a, b] := by
  obtain ⟨a, b, rfl⟩ : ∃ a b, l = [a, b] := by
    match l, h with
    | [a, b], _ => exact ⟨a, b, rfl⟩
  exact ⟨a, b, rfl⟩
theorem list6 {α : Type} {l : List α} (h : l.length = 6) : ∃ a b c d e f, l = [a, b, c, d, e, f] := by
  match l, h with
  | [a, b, c, d, e, f], _ => exact ⟨a, b, c, d, e, f, rfl⟩
section
variable {H : Type} {enc : TypeId × Value → H} {W : World}
theorem view_int {fuel : Nat} {cs : List Value} {x : DataW H × List MemPlace} (hl : cs.length = 1) (hf : DataW.trod enc Tryd.prog W 0 (fun _ => true) true fuel 2 cs = some x) : ∃ o : Int, cs = nC o ∧ I64 o := by
  obtain ⟨v0, rfl⟩ := list1 hl
  obtain ⟨n, e, _, w⟩ := DataW.trod_int Tryd.underlying2 hf
  simp only [List.cons.injEq, and_true] at e
  subst e
  exact ⟨n, rfl, bnd_i64 w⟩
theorem view_key {fuel : Nat} {cs : List Value} {x : DataW H × List MemPlace} (hl : cs.length = 2) (hf : DataW.trod enc Tryd.prog W 0 (fun _ => true) true fuel 38 cs = some x) : ∃ o : Ky, cs = kC o ∧ True := by
  obtain ⟨v0, v1, rfl⟩ := list2 hl
  obtain ⟨xs, n, _, _, _, hxl, hg⟩ := DataW.trod_struct Tryd.underlying38 hf
  obtain ⟨y0, y1, rfl⟩ := list2 hxl
  have g0 := hg 0 _ rfl
  have g1 := hg 1 _ rfl
  simp [Tryd.cells21, Tryd.cells2] at g0 g1
  obtain ⟨n0, e0, _, w0⟩ := DataW.trod_int Tryd.underlying21 g0
  obtain ⟨n1, e1, _, w1⟩ := DataW.trod_int Tryd.underlying2 g1
  simp only [List.cons.injEq, and_true] at e0 e1
  subst e0 e1
  exact ⟨(n0, n1), rfl, trivial⟩
theorem view_bytesR {fuel : Nat} {cs : List Value} {x : DataW H × List MemPlace} (hf : DataW.trod enc Tryd.prog W 0 (fun _ => true) true fuel 31 cs = some x) (hB : Light 31 x.1) : ∃ (a : Option Addr) (c : Nat) (l : List Int), cs = [.slice a l.length c] ∧ SeesL yC 1 W (.slice a l.length c) l ∧ Byt l ∧ l.length ≤ 140737488351232 := by
  obtain ⟨a0, cap, gb, ob, l, h0, h1, h2, hc, h3, h4⟩ := view_listR (M := 140737488351232) (fun k h => by rw [bytes5] at h; omega) (α := Int) Tryd.underlying31 Tryd.cells5 (by decide) yC (fun o => 0 ≤ o ∧ o ≤ 255) (fun _ => rfl) (fun _ _ _ hl hf _ => view_byte hl hf) hf hB
  refine ⟨a0, cap, l, h0, sees_of_view h1 (by omega) hc h3 fun t ht => (h4 t ht).2, fun b hb => ?_, h2⟩
  obtain ⟨t, ht, rfl⟩ := List.mem_iff_getElem.1 hb
  have := (h4 t ht).1
  simpa [List.getD, ht] using this
theorem view_intsR {fuel : Nat} {cs : List Value} {x : DataW H × List MemPlace} (hf : DataW.trod enc Tryd.prog W 0 (fun _ => true) true fuel 32 cs = some x) (hB : Light 32 x.1) : ∃ (a : Option Addr) (n c : Nat), cs = [.slice a n c] := by
  obtain ⟨a0, cap, gb, ob, l, h0, _⟩ := view_listR (M := 140737488351232) (fun k h => by rw [bytes2] at h; omega) (α := Int) Tryd.underlying32 Tryd.cells2 (by decide) nC I64 (fun _ => rfl) (fun _ _ _ hl hf _ => view_int hl hf) hf hB
  exact ⟨a0, l.length, cap, h0⟩
theorem view_keysR {fuel : Nat} {cs : List Value} {x : DataW H × List MemPlace} (hf : DataW.trod enc Tryd.prog W 0 (fun _ => true) true fuel 33 cs = some x) (hB : Light 33 x.1) : ∃ (a : Option Addr) (c : Nat) (l : List Ky), cs = [.slice a l.length c] ∧ SeesL kC 2 W (.slice a l.length c) l ∧ l.length ≤ 140737488351232 := by
  obtain ⟨a0, cap, gb, ob, l, h0, h1, h2, hc, h3, h4⟩ := view_listR (M := 140737488351232) (fun k h => by rw [bytes101] at h; omega) (α := Ky) Tryd.underlying33 Tryd.cells38 (by decide) kC (fun _ => True) (fun _ => rfl) (fun _ _ _ hl hf _ => view_key hl hf) hf hB
  exact ⟨a0, cap, l, h0, sees_of_view h1 (by omega) hc h3 fun t ht => (h4 t ht).2, h2⟩
theorem view_txnArg {r : Reach} {b0 : Nat} {v : Value} {d : DataW H} {p : List MemPlace} (hval : Value.okWide Tryd.prog W r b0 35 v) (hf : DataW.Trod enc Tryd.prog W 0 (fun _ => true) true 35 v d p) (hB : Light 35 d) :
    ∃ (s r : Int) (a1 a2 a3 a4 : Option Addr) (n2 c1 c2 c3 c4 : Nat) (l : List Int) (K1 K2 : List Ky), v = .agg #[.int .i64 s, .int .i64 r, .slice a1 l.length c1, .slice a2 n2 c2, .slice a3 K1.length c3, .slice a4 K2.length c4] ∧ SeesL yC 1 W (.slice a1 l.length c1) l ∧ Byt l ∧ SeesL kC 2 W (.slice a3 K1.length c3) K1 ∧ SeesL kC 2 W (.slice a4 K2.length c4) K2 ∧ K1.length ≤ 140737488351232 ∧ K2.length ≤ 140737488351232 ∧ l.length ≤ 140737488351232 := by
  obtain ⟨cs, rfl, hsz⟩ := okWide_struct Tryd.underlying35 hval
  obtain ⟨fuel, hf⟩ := hf
  rw [Tryd.cells35] at hsz
  have e : (Value.agg cs).cells.toList = cs.toList := by simp [Value.cells]
  rw [e] at hf
  obtain ⟨xs, n, _, hd, _, hxl, hg⟩ := DataW.trod_struct Tryd.underlying35 hf
  obtain ⟨rfl, rfl⟩ := Prod.mk.inj hd
  obtain ⟨y0, y1, y2, y3, y4, y5, rfl⟩ := list6 hxl
  obtain ⟨v0, v1, v2, v3, v4, v5, hcs⟩ := list6 (l := cs.toList) (by simpa using hsz)
  rw [hcs] at hg
  have g0 := hg 0 _ rfl
  have g1 := hg 1 _ rfl
  have g2 := hg 2 _ rfl
  have g3 := hg 3 _ rfl
  have g4 := hg 4 _ rfl
  have g5 := hg 5 _ rfl
  simp [Tryd.cells2, Tryd.cells31, Tryd.cells32, Tryd.cells33] at g0 g1 g2 g3 g4 g5
  obtain ⟨m0, e0, _, w0⟩ := DataW.trod_int Tryd.underlying2 g0
  obtain ⟨m1, e1, _, w1⟩ := DataW.trod_int Tryd.underlying2 g1
  obtain ⟨a1, c1, l, e2, hs2, hb2, k2⟩ := view_bytesR g2 (light_field Tryd.underlying35 hB (i := 2) rfl rfl)
  obtain ⟨a2, n2, c2, e3⟩ := view_intsR g3 (light_field Tryd.underlying35 hB (i := 3) rfl rfl)
  obtain ⟨a3, c3, K1, e4, hs4, k4⟩ := view_keysR g4 (light_field Tryd.underlying35 hB (i := 4) rfl rfl)
  obtain ⟨a4, c4, K2, e5, hs5, k5⟩ := view_keysR g5 (light_field Tryd.underlying35 hB (i := 5) rfl rfl)
  simp only [List.cons.injEq, and_true] at e0 e1 e2 e3 e4 e5
  subst e0 e1 e2 e3 e4 e5
  refine ⟨m0, m1, a1, a2, a3, a4, n2, c1, c2, c3, c4, l, K1, K2, ?_, hs2, hb2, hs4, hs5, k4, k5, k2⟩
  rw [show cs = cs.toList.toArray by simp, hcs]
end
end Go.Proofs.YtldapckooohigaaDoor

/- Views of numbers as arguments. -/
namespace Go.Proofs.YtldapckooohigaaDoor
open Go.ChangeShapes Go.WideShapes Go.ChangeAt Go.RowKit Go.Deep
set_option maxRecDepth 100000
section
variable {H : Type} {enc : TypeId × Value → H} {W : World}
theorem view_i64Arg {r : Reach} {b0 : Nat} {v : Value} {d : DataW H} {p : List MemPlace} (hval : Value.okWide Tryd.prog W r b0 2 v) (hf : DataW.Trod enc Tryd.prog W 0 (fun _ => true) true 2 v d p) : ∃ n : Int, v = .int .i64 n ∧ I64 n := by
  obtain ⟨n, rfl⟩ := okWide_int Tryd.underlying2 hval
  obtain ⟨fuel, hf⟩ := hf
  obtain ⟨m, e, _, w⟩ := DataW.trod_int Tryd.underlying2 hf
  have e' : n = m := by simpa [Value.cells] using e
  subst e'
  exact ⟨n, rfl, bnd_i64 w⟩
end
end Go.Proofs.YtldapckooohigaaDoor
