/- How a list of operations, a number and a key, as the row hands them over, are seen by the walks. -/
import Derived.Test.YtalecnfflcjkmaaDoorRV
namespace Go.Proofs.YtalecnfflcjkmaaDoor
open Go.ChangeShapes Go.WideShapes Go.ChangeAt Go.RowKit Go.Deep
set_option maxRecDepth 100000

theorem bytes_op : Tryd.prog.bytesOf 34 = 72 := by kernel_rfl
theorem add_add (a : Addr) (p t : Nat) : (a.add p).add t = a.add (p + t) := by
  unfold Addr.add
  by_cases hp : p = 0
  · subst hp; simp
  · by_cases ht : t = 0
    · subst ht; simp [hp]
    · simp [hp, ht, Nat.add_assoc]

/-- No list within it takes more bytes than the row allows. -/
def Light {H : Type} (t : TypeId) (d : DataW H) : Prop := ∀ n ∈ d.weights Tryd.prog t, n ≤ reachBytes
theorem mem_each {H : Type} {P : Program} : ∀ (ts : List TypeId) (ds : List (DataW H)) (i : Nat) (t : TypeId) (d : DataW H) (n : Nat), ts[i]? = some t → ds[i]? = some d → n ∈ d.weights P t → n ∈ DataW.weightsEach P ts ds
  | [], _, i, t, d, n, h, _, _ => by simp at h
  | _ :: _, [], i, t, d, n, _, h, _ => by simp at h
  | t0 :: ts, d0 :: ds, 0, t, d, n, h1, h2, h3 => by
    simp only [List.getElem?_cons_zero, Option.some.injEq] at h1 h2
    subst h1 h2
    rw [DataW.weightsEach]
    exact List.mem_append_left _ h3
  | t0 :: ts, d0 :: ds, i + 1, t, d, n, h1, h2, h3 => by
    rw [DataW.weightsEach]
    exact List.mem_append_right _ (mem_each ts ds i t d n (by simpa using h1) (by simpa using h2) h3)
theorem mem_all {H : Type} {P : Program} {e : TypeId} : ∀ (ds : List (DataW H)) (d : DataW H) (n : Nat), d ∈ ds → n ∈ d.weights P e → n ∈ DataW.weightsAll P e ds
  | [], d, n, h, _ => by cases h
  | d0 :: ds, d, n, h, hn => by
    rw [DataW.weightsAll]
    rcases List.mem_cons.1 h with rfl | h
    · exact List.mem_append_left _ hn
    · exact List.mem_append_right _ (mem_all ds d n h hn)
theorem light_field {H : Type} {T : TypeId} {fs : Array Field} (hT : Tryd.prog.underlying T = some (.struct fs)) {ds : List (DataW H)} (h : Light T (.agg ds)) {i : Nat} {t : TypeId} {d : DataW H} (ht : (fs.toList.map (·.type))[i]? = some t) (hd : ds[i]? = some d) : Light t d := fun n hn => h n (by
  simp only [DataW.weights, hT]
  exact mem_each _ _ i t d n ht hd hn)
theorem light_arg {H : Type} {P : Program} {ts : List TypeId} {ds : List (DataW H)} (h : (DataW.weightsEach P ts ds).all (· ≤ reachBytes) = true) {i : Nat} {t : TypeId} {d : DataW H} (ht : ts[i]? = some t) (hd : ds[i]? = some d) : ∀ n ∈ d.weights P t, n ≤ reachBytes := fun n hn => of_decide_eq_true (List.all_eq_true.mp h n (mem_each _ _ i t d n ht hd hn))
theorem light_elem {H : Type} {T E : TypeId} (hT : Tryd.prog.underlying T = some (.slice E)) {es sp : List (DataW H)} (h : Light T (.slice es sp)) {d : DataW H} (hd : d ∈ es) : Light E d := fun n hn => h n (by
  simp only [DataW.weights, hT]
  exact List.mem_cons_of_mem _ (List.mem_append_left _ (mem_all _ d n hd hn)))
theorem light_len {H : Type} {T E : TypeId} (hT : Tryd.prog.underlying T = some (.slice E)) {es sp : List (DataW H)} (h : Light T (.slice es sp)) : es.length * Tryd.prog.bytesOf E ≤ 140737488351232 := by
  have h1 := h ((es.length + sp.length) * Tryd.prog.bytesOf E) (by simp only [DataW.weights, hT]; exact List.mem_cons_self ..)
  rw [Nat.add_mul] at h1
  simp only [reachBytes] at h1
  omega

section
variable {H : Type} {enc : TypeId × Value → H} {W : World}
theorem view_listR {α : Type} [Inhabited α] {T E n M : Nat} (hM : ∀ k, k * Tryd.prog.bytesOf E ≤ 140737488351232 → k ≤ M) (hT : Tryd.prog.underlying T = some (.slice E)) (hE : Tryd.prog.cellsOf E = n) (hn : 0 < n) (cell : α → List Value) (ok : α → Prop) (hlen : ∀ a, (cell a).length = n)
    (each : ∀ fuel cs (x : DataW H × List MemPlace), cs.length = n → DataW.trod enc Tryd.prog W 0 (fun _ => true) true fuel E cs = some x → Light E x.1 → ∃ a, cs = cell a ∧ ok a)
    {fuel : Nat} {cs : List Value} {x : DataW H × List MemPlace} (hf : DataW.trod enc Tryd.prog W 0 (fun _ => true) true fuel T cs = some x) (hB : Light T x.1) :
    ∃ (a0 : Option Addr) (cap gb ob : Nat) (l : List α), cs = [.slice a0 l.length cap] ∧ l.length ≤ cap ∧ l.length ≤ M ∧ (a0 = none → cap = 0) ∧ (0 < l.length → a0 = some ⟨gb, ob, none⟩) ∧ ∀ t, t < l.length → ok (l.getD t default) ∧ ∀ k, k < n → W.cell? ⟨gb, ob + t * n + k, none⟩ = (cell (l.getD t default))[k]? := by
  rcases open_slice hT hf with ⟨rfl, hx⟩ | ⟨a, len, c, m, fl, D, Pl, rfl, _, hl, hm, hmm, rfl, hx⟩
  · exact ⟨none, 0, 0, 0, [], rfl, by simp, by simp, (fun _ => rfl), (fun h => absurd h (by simp)), fun t h => absurd h (by simp)⟩
  · simp only [if_true] at hmm
    subst hmm
    obtain ⟨b, o, s⟩ := a
    have hbl := hM _ (light_len (H := H) hT hB)
    simp only [List.length_map, List.length_range] at hbl
    have hbe : ∀ i, i < len → Light E (D i) := fun i hi => light_elem hT hB (List.mem_map.2 ⟨i, by simpa using hi, rfl⟩)
    have ea : ∀ i, i < len → ∃ q : α, ok q ∧ ∀ k, k < n → W.cell? ((⟨b, o, s⟩ : Addr).add (i * n + k)) = (cell q)[k]? := by
      intro i hi
      obtain ⟨cs', h1, h2⟩ := hx i (by omega)
      rw [hE] at h1
      obtain ⟨_, hlen', hcell⟩ := World.cells?_some h1
      obtain ⟨q, rfl, hq⟩ := each _ _ _ hlen' h2 (hbe i hi)
      refine ⟨q, hq, fun k hk => ?_⟩
      have := hcell k hk
      rw [add_add] at this
      exact this
    obtain ⟨q, hq⟩ := choose_lt ea
    have hll : ((List.range len).map q).length = len := by simp
    have hget : ∀ t, t < len → ((List.range len).map q).getD t default = q t := fun t ht => by simp [List.getD, ht]
    have hspot : 0 < len → s = none := fun h0 => by
      have h1 := (hq 0 h0).2 0 hn
      have h2 : (cell (q 0))[0]? = some ((cell (q 0))[0]'(by rw [hlen]; exact hn)) := List.getElem?_eq_getElem _
      rw [h2] at h1
      simpa [Addr.add] using World.cell?_spot h1
    refine ⟨some ⟨b, o, s⟩, _, b, o, (List.range len).map q, by rw [hll], by rw [hll]; exact hl, by rw [hll]; omega, (fun h => by cases h), fun h0 => ?_, fun t ht => ?_⟩
    · rw [hll] at h0
      rw [hspot h0]
    · rw [hll] at ht
      rw [hget t ht]
      have hs := hspot (by omega)
      subst hs
      have ad : ∀ j, (⟨b, o, none⟩ : Addr).add j = ⟨b, o + j, none⟩ := fun j => by unfold Addr.add; split <;> simp_all
      exact ⟨(hq t ht).1, fun k hk => by rw [← (hq t ht).2 k hk, ad, Nat.add_assoc]⟩

theorem view_opsArg {v : Value} {d : DataW H} {p : List MemPlace} {a : Option Addr} {n c : Nat} (hv : v = .slice a n c) (hf : DataW.Trod enc Tryd.prog W 0 (fun _ => true) true 23 v d p) (hB : Light 23 d) :
    ∃ (a0 : Option Addr) (cap gb ob : Nat) (l : List Opn), v = .slice a0 l.length cap ∧ l.length ≤ cap ∧ l.length ≤ 140737488351232 ∧ (a0 = none → cap = 0) ∧ (0 < l.length → a0 = some ⟨gb, ob, none⟩) ∧ ∀ t, t < l.length → OkO (l.getD t default) ∧ ∀ k, k < 9 → W.cell? ⟨gb, ob + t * 9 + k, none⟩ = (oC (l.getD t default))[k]? := by
  obtain ⟨fuel, hf⟩ := hf
  have e : v.cells.toList = [v] := by rw [hv]; rfl
  rw [e] at hf
  obtain ⟨a0, cap, gb, ob, l, h0, h1, h2, hc, h3, h4⟩ := view_listR (M := 140737488351232) (fun k h => by rw [bytes_op] at h; omega) (α := Opn) Tryd.underlying23 Tryd.cells34 (by decide) oC OkO (fun _ => rfl) (fun _ _ _ hl hf _ => view_op hl hf) hf hB
  exact ⟨a0, cap, gb, ob, l, by simpa using h0, h1, h2, hc, h3, h4⟩
theorem view_keyArg {r : Reach} {b0 : Nat} {v : Value} {d : DataW H} {p : List MemPlace} (hval : Value.okWide Tryd.prog W r b0 30 v) (hf : DataW.Trod enc Tryd.prog W 0 (fun _ => true) true 30 v d p) : ∃ k : Ky, v = .agg #[.int .i32 k.1, .int .i64 k.2] ∧ OkK k := by
  obtain ⟨cs, rfl, hsz⟩ := okWide_struct Tryd.underlying30 hval
  obtain ⟨fuel, hf⟩ := hf
  rw [Tryd.cells30] at hsz
  have e : (Value.agg cs).cells.toList = cs.toList := by simp [Value.cells]
  rw [e] at hf
  obtain ⟨v0, v1, h2⟩ := list2 (l := cs.toList) (by simpa using hsz)
  rw [h2] at hf
  obtain ⟨k, rfl, rfl, hk⟩ := view_key hf
  refine ⟨k, ?_, hk⟩
  rw [show cs = cs.toList.toArray by simp, h2]
theorem view_u64Arg {r : Reach} {b0 : Nat} {v : Value} {d : DataW H} {p : List MemPlace} (hval : Value.okWide Tryd.prog W r b0 22 v) (hf : DataW.Trod enc Tryd.prog W 0 (fun _ => true) true 22 v d p) : ∃ n : Int, v = .int .u64 n ∧ 0 ≤ n ∧ n < 18446744073709551616 := by
  obtain ⟨n, rfl⟩ := okWide_int Tryd.underlying22 hval
  obtain ⟨fuel, hf⟩ := hf
  obtain ⟨m, e, _, w⟩ := DataW.trod_int Tryd.underlying22 hf
  have e' : n = m := by simpa [Value.cells] using e
  subst e'
  exact ⟨n, rfl, bnd_u64 w⟩
end
end Go.Proofs.YtalecnfflcjkmaaDoor
