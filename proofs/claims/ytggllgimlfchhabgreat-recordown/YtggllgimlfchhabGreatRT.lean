/- Messages, entries and transactions as arguments, with the greatest size that the row asks of each of their lists. -/
import Derived.Test.YtggllgimlfchhabGreatKS
import Derived.Test.YtggllgimlfchhabGreatOF
import Derived.Test.YtggllgimlfchhabGreatKL
import Derived.Test.YtggllgimlfchhabGreatKN
namespace Go.Proofs.YtggllgimlfchhabGreat
open Go.ChangeShapes Go.WideShapes Go.ChangeAt Go.RowKit Go.Deep
set_option maxRecDepth 100000

theorem bytes_int : Tryz.prog.bytesOf 2 = 8 := by kernel_rfl
theorem bytes_key : Tryz.prog.bytesOf 91 = 16 := by kernel_rfl
theorem bytes_txn : Tryz.prog.bytesOf 70 = 112 := by kernel_rfl
theorem bytes_tm : Tryz.prog.bytesOf 52 = 56 := by kernel_rfl
/-- No list within it takes more bytes than the row allows. -/
def Light {H : Type} (t : TypeId) (d : DataW H) : Prop := ∀ n ∈ d.weights Tryz.prog t, n ≤ reachBytes
theorem mem_each {H : Type} {P : Program} : ∀ (ts : List TypeId) (ds : List (DataW H)) (i : Nat) (t : TypeId) (d : DataW H) (n : Nat), ts[i]? = some t → ds[i]? = some d → n ∈ d.weights P t → n ∈ DataW.weightsEach P ts ds
  | [], _, i, t, d, n, h, _, _ => by simp at h
  | _ :: _, [], i, t, d, n, _, h, _ => by simp at h
  | t0 :: ts, d0 :: ds, 0, t, d, n, h1, h2, h3 => by
    simp only [List.getElem?_cons_zero, Option.some.injEq] at h1 h2
    subst h1 h2
    rw [DataW.weightsEach]
    exact List.mem_append_left _ h3
  | t0 :: ts, d0 :: ds, i + 1, t, d, n, h1, h2, h3 => by
    rw [DataW.weightsEach]
    exact List.mem_append_right _ (mem_each ts ds i t d n (by simpa using h1) (by simpa using h2) h3)
theorem mem_all {H : Type} {P : Program} {e : TypeId} : ∀ (ds : List (DataW H)) (d : DataW H) (n : Nat), d ∈ ds → n ∈ d.weights P e → n ∈ DataW.weightsAll P e ds
  | [], d, n, h, _ => by cases h
  | d0 :: ds, d, n, h, hn => by
    rw [DataW.weightsAll]
    rcases List.mem_cons.1 h with rfl | h
    · exact List.mem_append_left _ hn
    · exact List.mem_append_right _ (mem_all ds d n h hn)
theorem light_field {H : Type} {T : TypeId} {fs : Array Field} (hT : Tryz.prog.underlying T = some (.struct fs)) {ds : List (DataW H)} (h : Light T (.agg ds)) {i : Nat} {t : TypeId} {d : DataW H} (ht : (fs.toList.map (·.type))[i]? = some t) (hd : ds[i]? = some d) : Light t d := fun n hn => h n (by
  simp only [DataW.weights, hT]
  exact mem_each _ _ i t d n ht hd hn)
theorem light_arg {H : Type} {P : Program} {ts : List TypeId} {ds : List (DataW H)} (h : (DataW.weightsEach P ts ds).all (· ≤ reachBytes) = true) {i : Nat} {t : TypeId} {d : DataW H} (ht : ts[i]? = some t) (hd : ds[i]? = some d) : ∀ n ∈ d.weights P t, n ≤ reachBytes := fun n hn => of_decide_eq_true (List.all_eq_true.mp h n (mem_each _ _ i t d n ht hd hn))
theorem light_elem {H : Type} {T E : TypeId} (hT : Tryz.prog.underlying T = some (.slice E)) {es sp : List (DataW H)} (h : Light T (.slice es sp)) {d : DataW H} (hd : d ∈ es) : Light E d := fun n hn => h n (by
  simp only [DataW.weights, hT]
  exact List.mem_cons_of_mem _ (List.mem_append_left _ (mem_all _ d n hd hn)))
theorem light_len {H : Type} {T E : TypeId} (hT : Tryz.prog.underlying T = some (.slice E)) {es sp : List (DataW H)} (h : Light T (.slice es sp)) : es.length * Tryz.prog.bytesOf E ≤ 140737488351232 := by
  have h1 := h ((es.length + sp.length) * Tryz.prog.bytesOf E) (by simp only [DataW.weights, hT]; exact List.mem_cons_self ..)
  rw [Nat.add_mul] at h1
  simp only [reachBytes] at h1
  omega

section
variable {H : Type} {enc : TypeId × Value → H} {W : World}

theorem view_bytesR {fuel : Nat} {cs : List Value} {x : DataW H × List MemPlace} (hf : DataW.trod enc Tryz.prog W 0 (fun _ => true) true fuel 26 cs = some x) (hB : Light 26 x.1) : ∃ v zs, cs = [v] ∧ Sees W .u8 v zs ∧ Byt zs ∧ zs.length ≤ 140737488351232 := by
  rcases open_ints Tryz.underlying26 Tryz.underlying5 (by kernel_rfl) hf with ⟨rfl, hx⟩ | ⟨a, len, cap, zs, rfl, _, hl, hm, hz, rfl, hcell, hwz⟩
  · exact ⟨_, [], rfl, Sees.nil _ _, (fun b hb => by cases hb), by simp⟩
  · simp only [if_true] at hz
    have hlen : (zs.take len).length = len := by simp; omega
    have hb := light_len (H := H) Tryz.underlying26 hB
    rw [bytes_byte] at hb
    simp only [lits, List.length_map, hlen] at hb
    refine ⟨_, zs.take len, rfl, ⟨_, cap, by rw [hlen], by rw [hlen]; exact hl, (fun h => by cases h), fun a' h t ht => ?_⟩, (fun b hb => bounds_u8 (hwz b (List.mem_of_mem_take hb))), by rw [hlen]; omega⟩
    obtain rfl := Option.some.inj h
    rw [hlen] at ht
    rw [hcell t (by omega)]
    simp [List.getD, ht]
theorem view_intsR {fuel : Nat} {cs : List Value} {x : DataW H × List MemPlace} (hf : DataW.trod enc Tryz.prog W 0 (fun _ => true) true fuel 67 cs = some x) (hB : Light 67 x.1) : ∃ v zs, cs = [v] ∧ Sees W .i64 v zs ∧ (∀ b ∈ zs, -9223372036854775808 ≤ b ∧ b ≤ 9223372036854775807) ∧ zs.length ≤ 17592186043904 := by
  rcases open_ints Tryz.underlying67 Tryz.underlying2 (by kernel_rfl) hf with ⟨rfl, hx⟩ | ⟨a, len, cap, zs, rfl, _, hl, hm, hz, rfl, hcell, hwz⟩
  · exact ⟨_, [], rfl, Sees.nil _ _, (fun b hb => by cases hb), by simp⟩
  · simp only [if_true] at hz
    have hlen : (zs.take len).length = len := by simp; omega
    have hb := light_len (H := H) Tryz.underlying67 hB
    rw [bytes_int] at hb
    simp only [lits, List.length_map, hlen] at hb
    refine ⟨_, zs.take len, rfl, ⟨_, cap, by rw [hlen], by rw [hlen]; exact hl, (fun h => by cases h), fun a' h t ht => ?_⟩, (fun b hb => bounds_i64 (hwz b (List.mem_of_mem_take hb))), by rw [hlen]; omega⟩
    obtain rfl := Option.some.inj h
    rw [hlen] at ht
    rw [hcell t (by omega)]
    simp [List.getD, ht]
/-- A slice of parts of n cells each. -/
theorem view_listR {α : Type} [Inhabited α] {T E n M : Nat} (hM : ∀ k, k * Tryz.prog.bytesOf E ≤ 140737488351232 → k ≤ M) (hT : Tryz.prog.underlying T = some (.slice E)) (hE : Tryz.prog.cellsOf E = n) (hn : 0 < n) (cell : α → List Value) (ok : α → Prop) (hlen : ∀ a, (cell a).length = n)
    (each : ∀ fuel cs (x : DataW H × List MemPlace), cs.length = n → DataW.trod enc Tryz.prog W 0 (fun _ => true) true fuel E cs = some x → Light E x.1 → ∃ a, cs = cell a ∧ ok a)
    {fuel : Nat} {cs : List Value} {x : DataW H × List MemPlace} (hf : DataW.trod enc Tryz.prog W 0 (fun _ => true) true fuel T cs = some x) (hB : Light T x.1) :
    ∃ (a0 : Option Addr) (cap gb ob : Nat) (l : List α), cs = [.slice a0 l.length cap] ∧ l.length ≤ cap ∧ l.length ≤ M ∧ (0 < l.length → a0 = some ⟨gb, ob, none⟩) ∧ ∀ t, t < l.length → ok (l.getD t default) ∧ ∀ k, k < n → W.cell? ⟨gb, ob + t * n + k, none⟩ = (cell (l.getD t default))[k]? := by
  rcases open_slice hT hf with ⟨rfl, hx⟩ | ⟨a, len, c, m, fl, D, Pl, rfl, _, hl, hm, hmm, rfl, hx⟩
  · exact ⟨none, 0, 0, 0, [], rfl, by simp, by simp, (fun h => absurd h (by simp)), fun t h => absurd h (by simp)⟩
  · simp only [if_true] at hmm
    subst hmm
    obtain ⟨b, o, s⟩ := a
    have hbl := hM _ (light_len (H := H) hT hB)
    simp only [List.length_map, List.length_range] at hbl
    have hbe : ∀ i, i < len → Light E (D i) := fun i hi => light_elem hT hB (List.mem_map.2 ⟨i, by simpa using hi, rfl⟩)
    have ea : ∀ i, i < len → ∃ q : α, ok q ∧ ∀ k, k < n → W.cell? ((⟨b, o, s⟩ : Addr).add (i * n + k)) = (cell q)[k]? := by
      intro i hi
      obtain ⟨cs', h1, h2⟩ := hx i (by omega)
      rw [hE] at h1
      obtain ⟨_, hlen', hcell⟩ := World.cells?_some h1
      obtain ⟨q, rfl, hq⟩ := each _ _ _ hlen' h2 (hbe i hi)
      refine ⟨q, hq, fun k hk => ?_⟩
      have := hcell k hk
      rw [add_add] at this
      exact this
    obtain ⟨q, hq⟩ := choose_lt ea
    have hll : ((List.range len).map q).length = len := by simp
    have hget : ∀ t, t < len → ((List.range len).map q).getD t default = q t := fun t ht => by simp [List.getD, ht]
    have hspot : 0 < len → s = none := fun h0 => by
      have h1 := (hq 0 h0).2 0 hn
      have h2 : (cell (q 0))[0]? = some ((cell (q 0))[0]'(by rw [hlen]; exact hn)) := List.getElem?_eq_getElem _
      rw [h2] at h1
      simpa [Addr.add] using World.cell?_spot h1
    refine ⟨some ⟨b, o, s⟩, _, b, o, (List.range len).map q, by rw [hll], by rw [hll]; exact hl, by rw [hll]; omega, fun h0 => ?_, fun t ht => ?_⟩
    · rw [hll] at h0
      rw [hspot h0]
    · rw [hll] at ht
      rw [hget t ht]
      have hs := hspot (by omega)
      subst hs
      have ad : ∀ j, (⟨b, o, none⟩ : Addr).add j = ⟨b, o + j, none⟩ := fun j => by unfold Addr.add; split <;> simp_all
      exact ⟨(hq t ht).1, fun k hk => by rw [← (hq t ht).2 k hk, ad, Nat.add_assoc]⟩
theorem view_keysR {fuel : Nat} {cs : List Value} {x : DataW H × List MemPlace} (hf : DataW.trod enc Tryz.prog W 0 (fun _ => true) true fuel 68 cs = some x) (hB : Light 68 x.1) : ∃ v l, cs = [v] ∧ SeesK W v l ∧ OkK l ∧ l.length ≤ 8796093021952 := by
  obtain ⟨a0, cap, gb, ob, l, rfl, h1, h2, h3, h4⟩ := view_listR (M := 8796093021952) (fun k h => by rw [bytes_key] at h; omega) (α := Int × Int) Tryz.underlying68 Tryz.cells91 (by decide) (fun k => [.int .i32 k.1, .int .i64 k.2]) (fun k => (-2147483648 ≤ k.1 ∧ k.1 ≤ 2147483647) ∧ (-9223372036854775808 ≤ k.2 ∧ k.2 ≤ 9223372036854775807)) (fun _ => rfl) (fun _ _ _ hl hf _ => view_key hl hf) hf hB
  refine ⟨_, l, rfl, ⟨a0, cap, gb, ob, rfl, h1, by omega, h3, fun t ht => ⟨(h4 t ht).2 0 (by omega), (h4 t ht).2 1 (by omega)⟩⟩, fun k hk => ?_, h2⟩
  obtain ⟨i, hi, rfl⟩ := List.getElem_of_mem hk
  have := (h4 i hi).1
  have e : l.getD i default = l[i] := by simp [List.getD, hi]
  rw [e] at this
  exact this
theorem view_txnR {fuel : Nat} {cs : List Value} {x : DataW H × List MemPlace} (hl : cs.length = 6) (hf : DataW.trod enc Tryz.prog W 0 (fun _ => true) true fuel 70 cs = some x) (hB : Light 70 x.1) :
    ∃ p : TV, cs = [.int .i64 p.1.ses, .int .i64 p.1.req, p.2.1, p.2.2.1, p.2.2.2.1, p.2.2.2.2] ∧ (SeesT W #[.int .i64 p.1.ses, .int .i64 p.1.req, p.2.1, p.2.2.1, p.2.2.2.1, p.2.2.2.2] p.1 ∧ FitT p.1 ∧ SmallT p.1) := by
  obtain ⟨xs, n, _, rfl, _, hxl, hg⟩ := DataW.trod_struct Tryz.underlying70 hf
  obtain ⟨y0, y1, y2, y3, y4, y5, rfl⟩ := list6 hxl
  obtain ⟨v0, v1, v2, v3, v4, v5, rfl⟩ := list6 hl
  have g0 := hg 0 _ rfl
  have g1 := hg 1 _ rfl
  have g2 := hg 2 _ rfl
  have g3 := hg 3 _ rfl
  have g4 := hg 4 _ rfl
  have g5 := hg 5 _ rfl
  simp [Tryz.cells2, Tryz.cells26, Tryz.cells67, Tryz.cells68] at g0 g1 g2 g3 g4 g5
  obtain ⟨n0, e0, _, w0⟩ := DataW.trod_int Tryz.underlying2 g0
  obtain ⟨n1, e1, _, w1⟩ := DataW.trod_int Tryz.underlying2 g1
  obtain ⟨u2, zs, e2, hs2, hb2, k2⟩ := view_bytesR g2 (light_field Tryz.underlying70 hB (i := 2) rfl rfl)
  obtain ⟨u3, az, e3, hs3, hb3, k3⟩ := view_intsR g3 (light_field Tryz.underlying70 hB (i := 3) rfl rfl)
  obtain ⟨u4, rs, e4, hs4, hb4, k4⟩ := view_keysR g4 (light_field Tryz.underlying70 hB (i := 4) rfl rfl)
  obtain ⟨u5, ws, e5, hs5, hb5, k5⟩ := view_keysR g5 (light_field Tryz.underlying70 hB (i := 5) rfl rfl)
  simp only [List.cons.injEq, and_true] at e0 e1 e2 e3 e4 e5
  subst e0 e1 e2 e3 e4 e5
  exact ⟨(⟨n0, n1, zs, az, rs, ws⟩, v2, v3, v4, v5), rfl, ⟨_, _, _, _, rfl, hs2, hs3, hs4, hs5⟩, ⟨bounds_i64 w0, bounds_i64 w1, hb2, hb3, hb4, hb5⟩, ⟨k2, k3, k4, k5⟩⟩
theorem view_txnsR {fuel : Nat} {cs : List Value} {x : DataW H × List MemPlace} (hf : DataW.trod enc Tryz.prog W 0 (fun _ => true) true fuel 22 cs = some x) (hB : Light 22 x.1) : ∃ v l, cs = [v] ∧ SeesTs W v l ∧ (∀ t ∈ l, FitT t) ∧ l.length ≤ 1256584717421 ∧ ∀ t ∈ l, SmallT t := by
  obtain ⟨a0, cap, gb, ob, l, rfl, h1, h2, h3, h4⟩ := view_listR (M := 1256584717421) (fun k h => by rw [bytes_txn] at h; omega) (α := TV) Tryz.underlying22 Tryz.cells70 (by decide) (fun p => [.int .i64 p.1.ses, .int .i64 p.1.req, p.2.1, p.2.2.1, p.2.2.2.1, p.2.2.2.2]) (fun p => SeesT W #[.int .i64 p.1.ses, .int .i64 p.1.req, p.2.1, p.2.2.1, p.2.2.2.1, p.2.2.2.2] p.1 ∧ FitT p.1 ∧ SmallT p.1) (fun _ => rfl) (fun _ _ _ hl hf hB => view_txnR hl hf hB) hf hB
  have hm : ∀ t ∈ l.map (·.1), FitT t ∧ SmallT t := fun t ht => by
    obtain ⟨p, hp, rfl⟩ := List.mem_map.1 ht
    obtain ⟨i, hi, rfl⟩ := List.getElem_of_mem hp
    have := (h4 i hi).1
    have e : l.getD i default = l[i] := by simp [List.getD, hi]
    rw [e] at this
    exact this.2
  refine ⟨_, l.map (·.1), rfl, ⟨a0, cap, gb, ob, by simp, by simpa using h1, by simp; omega, by simpa using h3, fun t ht => ?_⟩, (fun t ht => (hm t ht).1), by simpa using h2, fun t ht => (hm t ht).2⟩
  have htl : t < l.length := by simpa using ht
  obtain ⟨hk, hc⟩ := h4 t htl
  have e : l.getD t default = l[t] := by simp [List.getD, htl]
  have e2 : (l.map (·.1)).getD t dT = l[t].1 := by simp [List.getD, htl]
  rw [e] at hk hc
  rw [e2]
  exact ⟨_, _, _, _, hc 0 (by omega), hc 1 (by omega), hc 2 (by omega), hc 3 (by omega), hc 4 (by omega), hc 5 (by omega), hk.1⟩
theorem view_entR {fuel : Nat} {cs : List Value} {x : DataW H × List MemPlace} (hl : cs.length = 4) (hf : DataW.trod enc Tryz.prog W 0 (fun _ => true) true fuel 24 cs = some x) (hB : Light 24 x.1) :
    ∃ (e : EntD) (tv : Value), cs = [.int .i64 e.kind, .int .i64 e.frm, .int .i64 e.num, tv] ∧ SeesTs W tv e.txns ∧ FitE e ∧ e.txns.length ≤ 1256584717421 ∧ ∀ t ∈ e.txns, SmallT t := by
  obtain ⟨xs, n, _, rfl, _, hxl, hg⟩ := DataW.trod_struct Tryz.underlying24 hf
  obtain ⟨y0, y1, y2, y3, rfl⟩ := list4 hxl
  obtain ⟨v0, v1, v2, v3, rfl⟩ := list4 hl
  have g0 := hg 0 _ rfl
  have g1 := hg 1 _ rfl
  have g2 := hg 2 _ rfl
  have g3 := hg 3 _ rfl
  simp [Tryz.cells2, Tryz.cells3, Tryz.cells22] at g0 g1 g2 g3
  obtain ⟨n0, e0, _, w0⟩ := DataW.trod_int Tryz.underlying3 g0
  obtain ⟨n1, e1, _, w1⟩ := DataW.trod_int Tryz.underlying3 g1
  obtain ⟨n2, e2, _, w2⟩ := DataW.trod_int Tryz.underlying2 g2
  obtain ⟨u3, l, e3, k1, k2, k3, k4⟩ := view_txnsR g3 (light_field Tryz.underlying24 hB (i := 3) rfl rfl)
  simp only [List.cons.injEq, and_true] at e0 e1 e2 e3
  subst e0 e1 e2 e3
  exact ⟨⟨n0, n1, n2, l⟩, v3, rfl, k1, ⟨bounds_i64 w0, bounds_i64 w1, bounds_i64 w2, k2, fun t ht => Nat.le_trans (k4 t ht).2.1 (by decide)⟩, k3, k4⟩
theorem view_tmR {fuel : Nat} {cs : List Value} {x : DataW H × List MemPlace} (hl : cs.length = 5) (hf : DataW.trod enc Tryz.prog W 0 (fun _ => true) true fuel 52 cs = some x) (hB : Light 52 x.1) :
    ∃ p : TM2, cs = tmCells p ∧ (SeesTs W p.2 p.1.ent.txns ∧ FitTm p.1 ∧ SmallTm p.1) := by
  obtain ⟨xs, n, _, rfl, _, hxl, hg⟩ := DataW.trod_struct Tryz.underlying52 hf
  obtain ⟨y0, y1, rfl⟩ := list2 hxl
  obtain ⟨v0, v1, v2, v3, v4, rfl⟩ := list5 hl
  have g0 := hg 0 _ rfl
  have g1 := hg 1 _ rfl
  simp [Tryz.cells2, Tryz.cells24] at g0 g1
  obtain ⟨n0, e0, _, w0⟩ := DataW.trod_int Tryz.underlying2 g0
  obtain ⟨e, tv, e1, k1, k2, k3, k4⟩ := view_entR rfl g1 (light_field Tryz.underlying52 hB (i := 1) rfl rfl)
  simp only [List.cons.injEq, and_true] at e0 e1
  obtain ⟨rfl, rfl, rfl, rfl⟩ := e1
  subst e0
  exact ⟨(⟨n0, e⟩, v4), rfl, k1, ⟨bounds_i64 w0, k2⟩, k3, k4⟩
theorem view_tmsR {fuel : Nat} {cs : List Value} {x : DataW H × List MemPlace} (hf : DataW.trod enc Tryz.prog W 0 (fun _ => true) true fuel 25 cs = some x) (hB : Light 25 x.1) : ∃ v l, cs = [v] ∧ SeesTms W v l ∧ (∀ t ∈ l, FitTm t) ∧ l.length ≤ 2513169434843 ∧ ∀ t ∈ l, SmallTm t := by
  obtain ⟨a0, cap, gb, ob, l, rfl, h1, h2, h3, h4⟩ := view_listR (M := 2513169434843) (fun k h => by rw [bytes_tm] at h; omega) (α := TM2) Tryz.underlying25 Tryz.cells52 (by decide) tmCells (fun p => SeesTs W p.2 p.1.ent.txns ∧ FitTm p.1 ∧ SmallTm p.1) (fun _ => rfl) (fun _ _ _ hl hf hB => view_tmR hl hf hB) hf hB
  have hm : ∀ t ∈ l.map (·.1), FitTm t ∧ SmallTm t := fun t ht => by
    obtain ⟨p, hp, rfl⟩ := List.mem_map.1 ht
    obtain ⟨i, hi, rfl⟩ := List.getElem_of_mem hp
    have := (h4 i hi).1
    have e : l.getD i default = l[i] := by simp [List.getD, hi]
    rw [e] at this
    exact this.2
  refine ⟨_, l.map (·.1), rfl, ⟨a0, cap, gb, ob, by simp, by simpa using h1, by simp; omega, by simpa using h3, fun t ht => ?_⟩, (fun t ht => (hm t ht).1), by simpa using h2, fun t ht => (hm t ht).2⟩
  have htl : t < l.length := by simpa using ht
  obtain ⟨hk, hc⟩ := h4 t htl
  have e : l.getD t default = l[t] := by simp [List.getD, htl]
  have e2 : (l.map (·.1)).getD t dM = l[t].1 := by simp [List.getD, htl]
  rw [e] at hk hc
  rw [e2]
  exact ⟨_, hc 0 (by omega), hc 1 (by omega), hc 2 (by omega), hc 3 (by omega), hc 4 (by omega), hk.1⟩
theorem view_ptR {fuel : Nat} {cs : List Value} {x : DataW H × List MemPlace} (hl : cs.length = 4) (hf : DataW.trod enc Tryz.prog W 0 (fun _ => true) true fuel 28 cs = some x) (hB : Light 28 x.1) :
    ∃ (p : PtD) (dv : Value), cs = [.int .i64 p.slot, .int .i64 p.idx, .int .i64 p.many, dv] ∧ Sees W .u8 dv p.data ∧ Byt p.data ∧ FitP p ∧ p.data.length ≤ 140737488351232 := by
  obtain ⟨xs, n, _, rfl, _, hxl, hg⟩ := DataW.trod_struct Tryz.underlying28 hf
  obtain ⟨y0, y1, y2, y3, rfl⟩ := list4 hxl
  obtain ⟨v0, v1, v2, v3, rfl⟩ := list4 hl
  have g0 := hg 0 _ rfl
  have g1 := hg 1 _ rfl
  have g2 := hg 2 _ rfl
  have g3 := hg 3 _ rfl
  simp [Tryz.cells2, Tryz.cells3, Tryz.cells26] at g0 g1 g2 g3
  obtain ⟨n0, e0, _, w0⟩ := DataW.trod_int Tryz.underlying2 g0
  obtain ⟨n1, e1, _, w1⟩ := DataW.trod_int Tryz.underlying3 g1
  obtain ⟨n2, e2, _, w2⟩ := DataW.trod_int Tryz.underlying3 g2
  obtain ⟨u3, l, e3, k1, k2, k3⟩ := view_bytesR g3 (light_field Tryz.underlying28 hB (i := 3) rfl rfl)
  simp only [List.cons.injEq, and_true] at e0 e1 e2 e3
  subst e0 e1 e2 e3
  exact ⟨⟨n0, n1, n2, l⟩, v3, rfl, k1, k2, ⟨bounds_i64 w0, bounds_i64 w1, bounds_i64 w2⟩, k3⟩
/-- An entry as an argument. -/
theorem view_entryR {r : Reach} {b0 : Nat} {v : Value} {d : DataW H} {p : List MemPlace} (hval : Value.okWide Tryz.prog W r b0 24 v) (hf : DataW.Trod enc Tryz.prog W 0 (fun _ => true) true 24 v d p) (hB : Light 24 d) :
    ∃ (e : EntD) (ta : Option Addr) (tc : Nat), v = .agg #[.int .i64 e.kind, .int .i64 e.frm, .int .i64 e.num, .slice ta e.txns.length tc] ∧ SeesTs W (.slice ta e.txns.length tc) e.txns ∧ FitE e ∧ e.txns.length ≤ 1256584717421 ∧ ∀ t ∈ e.txns, SmallT t := by
  obtain ⟨cs, rfl, hsz⟩ := okWide_struct Tryz.underlying24 hval
  obtain ⟨fuel, hf⟩ := hf
  rw [Tryz.cells24] at hsz
  have e : (Value.agg cs).cells.toList = cs.toList := by simp [Value.cells]
  rw [e] at hf
  obtain ⟨en, tv, hcs, k1, k2, k3, k4⟩ := view_entR (by simpa using hsz) hf hB
  obtain ⟨ta, tc, _, _, rfl, _⟩ := id k1
  refine ⟨en, ta, tc, ?_, k1, k2, k3, k4⟩
  have : cs = (cs.toList).toArray := by simp
  rw [this, hcs]
/-- A message as an argument. -/
theorem view_msgR {r : Reach} {b0 : Nat} {v : Value} {d : DataW H} {p : List MemPlace} (hval : Value.okWide Tryz.prog W r b0 30 v) (hf : DataW.Trod enc Tryz.prog W 0 (fun _ => true) true 30 v d p) (hB : Light 30 d) :
    ∃ cs m, v = .agg cs ∧ SeesM W cs m ∧ OkM m ∧ Fits m ∧ SmallM m := by
  obtain ⟨cs, rfl, hsz⟩ := okWide_struct Tryz.underlying30 hval
  obtain ⟨fuel, hf⟩ := hf
  rw [Tryz.cells30] at hsz
  have e : (Value.agg cs).cells.toList = cs.toList := by simp [Value.cells]
  rw [e] at hf
  obtain ⟨xs, n, _, hx, _, hxl, hg⟩ := DataW.trod_struct Tryz.underlying30 hf
  obtain ⟨y0, y1, y2, y3, y4, y5, y6, y7, y8, y9, y10, rfl⟩ := list11 hxl
  obtain ⟨v0, v1, v2, v3, v4, v5, v6, v7, v8, v9, v10, v11, v12, v13, v14, v15, v16, hcs⟩ := list17 (l := cs.toList) (by simpa using hsz)
  rw [hcs] at hg
  have g0 := hg 0 _ rfl
  have g1 := hg 1 _ rfl
  have g2 := hg 2 _ rfl
  have g3 := hg 3 _ rfl
  have g4 := hg 4 _ rfl
  have g5 := hg 5 _ rfl
  have g6 := hg 6 _ rfl
  have g7 := hg 7 _ rfl
  have g8 := hg 8 _ rfl
  have g9 := hg 9 _ rfl
  have g10 := hg 10 _ rfl
  simp [Tryz.cells2, Tryz.cells3, Tryz.cells4, Tryz.cells24, Tryz.cells25, Tryz.cells28] at g0 g1 g2 g3 g4 g5 g6 g7 g8 g9 g10
  simp only [Prod.mk.injEq] at hx
  obtain ⟨rfl, _⟩ := hx
  obtain ⟨n0, e0, _, z0⟩ := DataW.trod_int Tryz.underlying3 g0
  obtain ⟨n1, e1, _, z1⟩ := DataW.trod_int Tryz.underlying3 g1
  obtain ⟨n2, e2, _, z2⟩ := DataW.trod_int Tryz.underlying3 g2
  obtain ⟨n3, e3, _, z3⟩ := DataW.trod_int Tryz.underlying2 g3
  obtain ⟨n4, e4, _, z4⟩ := DataW.trod_int Tryz.underlying2 g4
  obtain ⟨n5, e5, _, z5⟩ := DataW.trod_int Tryz.underlying2 g5
  obtain ⟨n6, e6, _, z6⟩ := DataW.trod_int Tryz.underlying2 g6
  obtain ⟨bY, e7, _⟩ := DataW.trod_bool Tryz.underlying4 g7
  obtain ⟨lv, ml, e8, a1, a2, a3, a4⟩ := view_tmsR g8 (light_field Tryz.underlying30 hB (i := 8) rfl rfl)
  obtain ⟨en, tv, e9, b1, b2, b3, b4⟩ := view_entR rfl g9 (light_field Tryz.underlying30 hB (i := 9) rfl rfl)
  obtain ⟨pt, dv, e10, c1, c2, c4, c3⟩ := view_ptR rfl g10 (light_field Tryz.underlying30 hB (i := 10) rfl rfl)
  simp only [List.cons.injEq, and_true] at e0 e1 e2 e3 e4 e5 e6 e7 e8 e9 e10
  obtain ⟨rfl, rfl, rfl, rfl⟩ := e9
  obtain ⟨rfl, rfl, rfl, rfl⟩ := e10
  subst e0 e1 e2 e3 e4 e5 e6 e7 e8
  refine ⟨cs, ⟨n0, n1, n2, n3, n4, n5, n6, bY, ml, en, pt⟩, rfl, ⟨v8, v12, v16, ?_, a1, b1, c1⟩, ⟨fun x hx => (a2 x hx).ent.ok, b2.ok, c2⟩, ⟨⟨bounds_i64 z3, bounds_i64 z4, bounds_i64 z5, bounds_i64 z6, a2, b2, c4⟩, bounds_i64 z0, bounds_i64 z1, bounds_i64 z2⟩, ⟨a3, a4, ⟨b3, b4⟩, c3⟩⟩
  have : cs = (cs.toList).toArray := by simp
  rw [this, hcs]
end
end Go.Proofs.YtggllgimlfchhabGreat
