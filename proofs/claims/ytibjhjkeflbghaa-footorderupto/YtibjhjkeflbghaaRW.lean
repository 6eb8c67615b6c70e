/- How keys, pairs, arrays of bytes and lists of them, as the row hands them over, are seen by the walks. -/
import Derived.Test.YtibjhjkeflbghaaRows
import Derived.Test.YtibjhjkeflbghaaKA
import Derived.ProofKit
import Derived.OpenShut
import Derived.ShutString
import Derived.ChangeOld
import Derived.SizedLaws
import Derived.JoinedCond
import Derived.Deep.Slices
import Derived.Deep.SlicePairs
import Derived.Carry
namespace Go.Proofs.Ytibjhjkeflbghaa
open Go.ChangeShapes Go.WideShapes Go.ChangeAt Go.RowKit Go.Deep
set_option maxRecDepth 100000

theorem ownK : ownKnob Try.prog.godebug = none := by kernel_rfl
theorem laidOut : laidOutB Try.prog = true := by kernel_rfl
theorem Try.cells5 : Try.prog.cellsOf 5 = 1 := by kernel_rfl
theorem bytes_key : Try.prog.bytesOf 37 = 16 := by kernel_rfl
theorem add_add (a : Addr) (p t : Nat) : (a.add p).add t = a.add (p + t) := by
  unfold Addr.add
  by_cases hp : p = 0
  · subst hp; simp
  · by_cases ht : t = 0
    · subst ht; simp [hp]
    · simp [hp, ht, Nat.add_assoc]

/-- No list within it takes more bytes than the row allows. -/
def Light {H : Type} (t : TypeId) (d : DataW H) : Prop := ∀ n ∈ d.weights Try.prog t, n ≤ reachBytes
theorem mem_each {H : Type} {P : Program} : ∀ (ts : List TypeId) (ds : List (DataW H)) (i : Nat) (t : TypeId) (d : DataW H) (n : Nat), ts[i]? = some t → ds[i]? = some d → n ∈ d.weights P t → n ∈ DataW.weightsEach P ts ds
  | [], _, i, t, d, n, h, _, _ => by simp at h
  | _ :: _, [], i, t, d, n, _, h, _ => by simp at h
  | t0 :: ts, d0 :: ds, 0, t, d, n, h1, h2, h3 => by
    simp only [List.getElem?_cons_zero, Option.some.injEq] at h1 h2
    subst h1 h2
    rw [DataW.weightsEach]
    exact List.mem_append_left _ h3
  | t0 :: ts, d0 :: ds, i + 1, t, d, n, h1, h2, h3 => by
    rw [DataW.weightsEach]
    exact List.mem_append_right _ (mem_each ts ds i t d n (by simpa using h1) (by simpa using h2) h3)
theorem mem_all {H : Type} {P : Program} {e : TypeId} : ∀ (ds : List (DataW H)) (d : DataW H) (n : Nat), d ∈ ds → n ∈ d.weights P e → n ∈ DataW.weightsAll P e ds
  | [], d, n, h, _ => by cases h
  | d0 :: ds, d, n, h, hn => by
    rw [DataW.weightsAll]
    rcases List.mem_cons.1 h with rfl | h
    · exact List.mem_append_left _ hn
    · exact List.mem_append_right _ (mem_all ds d n h hn)
theorem light_field {H : Type} {T : TypeId} {fs : Array Field} (hT : Try.prog.underlying T = some (.struct fs)) {ds : List (DataW H)} (h : Light T (.agg ds)) {i : Nat} {t : TypeId} {d : DataW H} (ht : (fs.toList.map (·.type))[i]? = some t) (hd : ds[i]? = some d) : Light t d := fun n hn => h n (by
  simp only [DataW.weights, hT]
  exact mem_each _ _ i t d n ht hd hn)
theorem light_arg {H : Type} {P : Program} {ts : List TypeId} {ds : List (DataW H)} (h : (DataW.weightsEach P ts ds).all (· ≤ reachBytes) = true) {i : Nat} {t : TypeId} {d : DataW H} (ht : ts[i]? = some t) (hd : ds[i]? = some d) : ∀ n ∈ d.weights P t, n ≤ reachBytes := fun n hn => of_decide_eq_true (List.all_eq_true.mp h n (mem_each _ _ i t d n ht hd hn))
theorem light_elem {H : Type} {T E : TypeId} (hT : Try.prog.underlying T = some (.slice E)) {es sp : List (DataW H)} (h : Light T (.slice es sp)) {d : DataW H} (hd : d ∈ es) : Light E d := fun n hn => h n (by
  simp only [DataW.weights, hT]
  exact List.mem_cons_of_mem _ (List.mem_append_left _ (mem_all _ d n hd hn)))
theorem light_len {H : Type} {T E : TypeId} (hT : Try.prog.underlying T = some (.slice E)) {es sp : List (DataW H)} (h : Light T (.slice es sp)) : es.length * Try.prog.bytesOf E ≤ 140737488351232 := by
  have h1 := h ((es.length + sp.length) * Try.prog.bytesOf E) (by simp only [DataW.weights, hT]; exact List.mem_cons_self ..)
  rw [Nat.add_mul] at h1
  simp only [reachBytes] at h1
  omega

section
variable {H : Type} {enc : TypeId × Value → H} {W : World}
theorem view_listR {α : Type} [Inhabited α] {T E n M : Nat} (hM : ∀ k, k * Try.prog.bytesOf E ≤ 140737488351232 → k ≤ M) (hT : Try.prog.underlying T = some (.slice E)) (hE : Try.prog.cellsOf E = n) (hn : 0 < n) (cell : α → List Value) (ok : α → Prop) (hlen : ∀ a, (cell a).length = n)
    (each : ∀ fuel cs (x : DataW H × List MemPlace), cs.length = n → DataW.trod enc Try.prog W 0 (fun _ => true) true fuel E cs = some x → Light E x.1 → ∃ a, cs = cell a ∧ ok a)
    {fuel : Nat} {cs : List Value} {x : DataW H × List MemPlace} (hf : DataW.trod enc Try.prog W 0 (fun _ => true) true fuel T cs = some x) (hB : Light T x.1) :
    ∃ (a0 : Option Addr) (cap gb ob : Nat) (l : List α), cs = [.slice a0 l.length cap] ∧ l.length ≤ cap ∧ l.length ≤ M ∧ (a0 = none → cap = 0) ∧ (0 < l.length → a0 = some ⟨gb, ob, none⟩) ∧ ∀ t, t < l.length → ok (l.getD t default) ∧ ∀ k, k < n → W.cell? ⟨gb, ob + t * n + k, none⟩ = (cell (l.getD t default))[k]? := by
  rcases open_slice hT hf with ⟨rfl, hx⟩ | ⟨a, len, c, m, fl, D, Pl, rfl, _, hl, hm, hmm, rfl, hx⟩
  · exact ⟨none, 0, 0, 0, [], rfl, by simp, by simp, (fun _ => rfl), (fun h => absurd h (by simp)), fun t h => absurd h (by simp)⟩
  · simp only [if_true] at hmm
    subst hmm
    obtain ⟨b, o, s⟩ := a
    have hbl := hM _ (light_len (H := H) hT hB)
    simp only [List.length_map, List.length_range] at hbl
    have hbe : ∀ i, i < len → Light E (D i) := fun i hi => light_elem hT hB (List.mem_map.2 ⟨i, by simpa using hi, rfl⟩)
    have ea : ∀ i, i < len → ∃ q : α, ok q ∧ ∀ k, k < n → W.cell? ((⟨b, o, s⟩ : Addr).add (i * n + k)) = (cell q)[k]? := by
      intro i hi
      obtain ⟨cs', h1, h2⟩ := hx i (by omega)
      rw [hE] at h1
      obtain ⟨_, hlen', hcell⟩ := World.cells?_some h1
      obtain ⟨q, rfl, hq⟩ := each _ _ _ hlen' h2 (hbe i hi)
      refine ⟨q, hq, fun k hk => ?_⟩
      have := hcell k hk
      rw [add_add] at this
      exact this
    obtain ⟨q, hq⟩ := choose_lt ea
    have hll : ((List.range len).map q).length = len := by simp
    have hget : ∀ t, t < len → ((List.range len).map q).getD t default = q t := fun t ht => by simp [List.getD, ht]
    have hspot : 0 < len → s = none := fun h0 => by
      have h1 := (hq 0 h0).2 0 hn
      have h2 : (cell (q 0))[0]? = some ((cell (q 0))[0]'(by rw [hlen]; exact hn)) := List.getElem?_eq_getElem _
      rw [h2] at h1
      simpa [Addr.add] using World.cell?_spot h1
    refine ⟨some ⟨b, o, s⟩, _, b, o, (List.range len).map q, by rw [hll], by rw [hll]; exact hl, by rw [hll]; omega, (fun h => by cases h), fun h0 => ?_, fun t ht => ?_⟩
    · rw [hll] at h0
      rw [hspot h0]
    · rw [hll] at ht
      rw [hget t ht]
      have hs := hspot (by omega)
      subst hs
      have ad : ∀ j, (⟨b, o, none⟩ : Addr).add j = ⟨b, o + j, none⟩ := fun j => by unfold Addr.add; split <;> simp_all
      exact ⟨(hq t ht).1, fun k hk => by rw [← (hq t ht).2 k hk, ad, Nat.add_assoc]⟩

theorem list2 {α : Type} {l : List α} (h : l.length = 2) : ∃ a b, l = [a, b] := by
  match l, h with
  | [a, b], _ => exact ⟨a, b, rfl⟩
theorem list3 {α : Type} {l : List α} (h : l.length = 3) : ∃ a b c, l = [a, b, c] := by
  match l, h with
  | [a, b, c], _ => exact ⟨a, b, c, rfl⟩
theorem list12 {α : Type} {l : List α} (h : l.length = 12) : ∃ a0 a1 a2 a3 a4 a5 a6 a7 a8 a9 a10 a11, l = [a0, a1, a2, a3, a4, a5, a6, a7, a8, a9, a10, a11] := by
  match l, h with
  | [a0, a1, a2, a3, a4, a5, a6, a7, a8, a9, a10, a11], _ => exact ⟨a0, a1, a2, a3, a4, a5, a6, a7, a8, a9, a10, a11, rfl⟩
theorem view_key {fuel : Nat} {cs : List Value} {x : DataW H × List MemPlace} (hl : cs.length = 2) (hf : DataW.trod enc Try.prog W 0 (fun _ => true) true fuel 37 cs = some x) : ∃ k : Ky, cs = kC k ∧ OkK k := by
  obtain ⟨xs, n, _, rfl, _, hxl, hg⟩ := DataW.trod_struct Try.underlying37 hf
  obtain ⟨y0, y1, rfl⟩ := list2 hxl
  obtain ⟨v0, v1, rfl⟩ := list2 hl
  have g0 := hg 0 _ rfl
  have g1 := hg 1 _ rfl
  simp [Try.cells21, Try.cells2] at g0 g1
  obtain ⟨n0, e0, _, w0⟩ := DataW.trod_int Try.underlying21 g0
  obtain ⟨n1, e1, _, w1⟩ := DataW.trod_int Try.underlying2 g1
  simp only [List.cons.injEq, and_true] at e0 e1
  subst e0 e1
  exact ⟨(n0, n1), rfl, bounds_i32 w0, bounds_i64 w1⟩
def OkP (p : Pr) : Prop := OkK p.1 ∧ -9223372036854775808 ≤ p.2 ∧ p.2 ≤ 9223372036854775807
theorem view_keyArg {r : Reach} {b0 : Nat} {v : Value} {d : DataW H} {p : List MemPlace} (hval : Value.okWide Try.prog W r b0 37 v) (hf : DataW.Trod enc Try.prog W 0 (fun _ => true) true 37 v d p) :
    ∃ k : Ky, v = .agg #[.int .i32 k.1, .int .i64 k.2] ∧ OkK k := by
  obtain ⟨cs, rfl, hsz⟩ := okWide_struct Try.underlying37 hval
  obtain ⟨fuel, hf⟩ := hf
  rw [Try.cells37] at hsz
  have e : (Value.agg cs).cells.toList = cs.toList := by simp [Value.cells]
  rw [e] at hf
  obtain ⟨k, hk, ho⟩ := view_key (by simpa using hsz) hf
  refine ⟨k, ?_, ho⟩
  have : cs = (cs.toList).toArray := by simp
  rw [this, hk]
  rfl
theorem okWide_array {P : Program} {w : World} {r : Reach} {base : Nat} {t : TypeId} {v : Value} {n : Nat} {e : TypeId} (ht : P.underlying t = some (.array n e)) (h : Value.okWide P w r base t v) : ∃ cs, v = .agg cs ∧ cs.size = P.cellsOf t := by
  simp only [Value.okWide, ht] at h
  obtain ⟨cs, h1, h2, _⟩ := h
  exact ⟨cs, h1, h2⟩
theorem view_keysR {fuel : Nat} {cs : List Value} {x : DataW H × List MemPlace} (hf : DataW.trod enc Try.prog W 0 (fun _ => true) true fuel 24 cs = some x) (hB : Light 24 x.1) : ∃ v l, cs = [v] ∧ SeesL kC 2 W v l ∧ (∀ k ∈ l, OkK k) ∧ l.length ≤ 8796093021952 := by
  obtain ⟨a0, cap, gb, ob, l, rfl, h1, h2, hc, h3, h4⟩ := view_listR (M := 8796093021952) (fun k h => by rw [bytes_key] at h; omega) (α := Ky) Try.underlying24 Try.cells37 (by decide) kC OkK kC_len (fun _ _ _ hl hf _ => view_key hl hf) hf hB
  have e : ∀ (t : Nat) p, l[t]? = some p → t < l.length ∧ l.getD t default = p := fun t p hp => by
    obtain ⟨ht, rfl⟩ := List.getElem?_eq_some_iff.1 hp
    exact ⟨ht, by simp [List.getD, ht]⟩
  refine ⟨_, l, rfl, ⟨a0, cap, gb, ob, rfl, h1, by omega, hc, h3, fun t p hp j hj => ?_⟩, fun k hk => ?_, h2⟩
  · obtain ⟨ht, ep⟩ := e t p hp
    rw [← ep]
    exact (h4 t ht).2 j hj
  · obtain ⟨t, ht⟩ := List.getElem?_of_mem hk
    obtain ⟨hl, ep⟩ := e t k ht
    rw [← ep]
    exact (h4 t hl).1
theorem view_keysArg {v : Value} {d : DataW H} {p : List MemPlace} {a : Option Addr} {n c : Nat} (hv : v = .slice a n c) (hf : DataW.Trod enc Try.prog W 0 (fun _ => true) true 24 v d p) (hB : Light 24 d) : ∃ l, SeesL kC 2 W v l ∧ (∀ k ∈ l, OkK k) ∧ l.length ≤ 8796093021952 := by
  obtain ⟨fuel, hf⟩ := hf
  have e : v.cells.toList = [v] := by rw [hv]; rfl
  rw [e] at hf
  obtain ⟨v', l, h1, h2⟩ := view_keysR hf hB
  obtain rfl : v = v' := by simpa using h1
  exact ⟨l, h2⟩
end
end Go.Proofs.Ytibjhjkeflbghaa
