/- Several texts as one. -/
import Derived.Test.YtoddemcmmijoaaaNH
import Derived.Test.YtoddemcmmijoaaaRS
import Derived.Test.YtoddemcmmijoaaaKQ
import Derived.Test.YtoddemcmmijoaaaKL

/- Record: cloneList of termed entries. -/
namespace Go.Proofs.Ytoddemcmmijoaaa
open Go.RowKit Go.Deep
set_option maxRecDepth 100000

/-- No list of parts is too long to be cloned. -/
def SmallTm (t : TmD) : Prop := t.ent.txns.length ≤ 1256584717421 ∧ ∀ x ∈ t.ent.txns, SmallT x

set_option maxHeartbeats 1600000 in
theorem cloneListM_any (v : Value) (l : List TmD) (w : World) (hs : SeesTms w v l) (hm : l.length ≤ 2513169434843) (hsm : ∀ t ∈ l, SmallTm t) :
    Calls Try.prog 29 #[v, .func (.func 30) #[] #[]] w fun e w' => ∃ x, e = .returned x ∧ OwnTms w.heap.size w' x l ∧ Below w.heap.size w w' := by
  have HC := hide (cloneTms_any v l w hs hm)
  have HSM := hide hsm
  obtain ⟨ao, cap, _, _, rfl, _⟩ := hs
  clear hsm
  go_enter Try.func29, Try.ntmps29
  go_wp2_with fail
  refine (unhide HC).mono ?_
  rintro e w2 ⟨x, rfl, ⟨vs, hvs, hrow, hse⟩, hb2⟩
  rcases hrow.2 with ⟨rfl, hl0⟩ | ⟨g, cap2, cur, rfl, _⟩
  · obtain rfl : l = [] := List.length_eq_zero_iff.1 hl0
    have HB := hide hb2
    clear hrow hse hb2 hvs HC
    go_wp2
    go_loopw [12] (fun c wr => c = .int .i64 0 ∧ wr = w2) (fun _ _ => 0)
    case atStart => exact ⟨rfl, rfl⟩
    case round =>
      obtain ⟨rfl, rfl⟩ := hrel
      go_wp2
      go_ret
      exact ⟨_, rfl, OwnTms.nil _ _, unhide HB⟩
  · have HJ : Hid (CM w w2 g l.length cap2 0 vs l) := ⟨hvs, rfl, hrow, fun j p hj => absurd hj (by omega), fun j p _ hp => hse p (List.mem_of_getElem? hp), hb2⟩
    obtain ⟨n, hn⟩ : ∃ n, l.length = n := ⟨_, rfl⟩
    rw [hn] at HJ hm ⊢
    clear hrow hse hb2 hvs HC
    go_wp2
    go_loopw [12] (fun c wr => ∃ (t : Nat) (us : List TM2), t ≤ n ∧ c = .int .i64 t ∧ CM w wr g n cap2 t us l) (fun c _ => n - (intOf c).toNat)
    case atStart => exact ⟨0, vs, by omega, rfl, unhide HJ⟩
    case round =>
      obtain ⟨t, us, ht, rfl, hJ⟩ := hrel
      by_cases hlt : t < n
      · have hul : us.length = n := by rw [← hJ.len, ← hJ.map]; simp
        obtain ⟨p, hp⟩ : ∃ p, us[t]? = some p := ⟨us[t]'(by omega), by simp [hul, hlt]⟩
        have hpl : p.1 ∈ l := by rw [← hJ.map]; exact List.mem_map.2 ⟨p, List.mem_of_getElem? hp, rfl⟩
        have hps := unhide HSM p.1 hpl
        have hpt := hJ.rest t p (Nat.le_refl _) hp
        obtain ⟨⟨s0, s1, s2, s3, lt⟩, v1⟩ := p
        simp only at hpt hps
        obtain ⟨k1, c1, _, _, e1, _⟩ := id hpt
        subst e1
        have d0 := row_cell hJ.row (t * 5) (.int .i64 s0) (tmCells_at us t _ hp 0 (by omega))
        have d1 := row_cell hJ.row (t * 5 + 1) (.int .i64 s1) (tmCells_at us t _ hp 1 (by omega))
        have d2 := row_cell hJ.row (t * 5 + 2) (.int .i64 s2) (tmCells_at us t _ hp 2 (by omega))
        have d3 := row_cell hJ.row (t * 5 + 3) (.int .i64 s3) (tmCells_at us t _ hp 3 (by omega))
        have d4 := row_cell hJ.row (t * 5 + 4) _ (tmCells_at us t _ hp 4 (by omega))
        simp only at d4
        obtain ⟨m1, f1⟩ : ∃ m, lt.length = m := ⟨_, rfl⟩
        rw [f1] at d4
        have hal : Below wr.heap.size wr (wr.alloc (.cells #[.int .i64 s0, .int .i64 s1, .int .i64 s2, .int .i64 s3, .slice k1 m1 c1] 71)) := (Below.refl _ _).alloc (Nat.le_refl _) _
        have hJ1 := hJ.below' hal
        have HM := hide (cloneTermed_any _ ⟨s0, s1, s2, s3, lt⟩ (wr.alloc (.cells #[.int .i64 s0, .int .i64 s1, .int .i64 s2, .int .i64 s3, .slice k1 m1 c1] 71)) ⟨_, rfl, hpt.below hJ1.below⟩ hps.1 hps.2)
        simp only [f1] at HM
        have HJ1 := hide hJ1
        have HP := hide hp
        clear hpt hps hpl hul hJ hJ1 hal hp f1
        go_wp2_with fail
        refine (unhide HM).mono ?_
        rintro e w3 ⟨cs', rfl, ⟨tv', rfl, ho3⟩, hb3⟩
        obtain ⟨j1, z1, rfl⟩ := ho3.shape
        have hJ3 := (unhide HJ1).below' hb3
        simp only at ho3 ⊢
        have hp3 := unhide HP
        have d0' := row_cell hJ3.row (t * 5) (.int .i64 s0) (tmCells_at us t _ hp3 0 (by omega))
        have d1' := row_cell hJ3.row (t * 5 + 1) (.int .i64 s1) (tmCells_at us t _ hp3 1 (by omega))
        have d2' := row_cell hJ3.row (t * 5 + 2) (.int .i64 s2) (tmCells_at us t _ hp3 2 (by omega))
        have d3' := row_cell hJ3.row (t * 5 + 3) (.int .i64 s3) (tmCells_at us t _ hp3 3 (by omega))
        have d4' := row_cell hJ3.row (t * 5 + 4) _ (tmCells_at us t _ hp3 4 (by omega))
        simp only at d4'
        obtain ⟨_, cur3, hh3⟩ := row_heap hJ3.row
        have fz : ∀ o, w3.frozen? ⟨g, o, none⟩ = false := fun o => frozen_of_heap hh3
        have hst := hJ3.step _ (⟨s0, s1, s2, s3, lt⟩, .slice j1 lt.length z1) hp3 rfl (ho3.mono (by have := (unhide HJ1).below.size; exact this))
        simp only at hst
        have HST := hide hst
        clear ho3 hb3 hJ3 hst hh3 HM hp3
        go_wp2
        go_roundw
        case rel => first | exact ⟨t + 1, _, by omega, by go_num, unhide HST⟩ | ((repeat apply Exists.intro); exact ⟨⟨t + 1, _, by omega, by go_num, unhide HST⟩, rfl⟩)
        case measure => simp [intOf]; omega
      · obtain rfl : t = n := by omega
        have HF : Hid (OwnTms w.heap.size wr (.slice (some ⟨g, 0, none⟩) t cap2) l ∧ Below w.heap.size w wr) := ⟨hJ.end, hJ.below⟩
        clear hJ
        go_wp2
        go_ret
        exact ⟨_, rfl, unhide HF⟩
end Go.Proofs.Ytoddemcmmijoaaa

/- Messages, entries and transactions as arguments, with the greatest size that the row asks of each of their lists. -/
namespace Go.Proofs.Ytoddemcmmijoaaa
open Go.ChangeShapes Go.WideShapes Go.ChangeAt Go.RowKit Go.Deep
set_option maxRecDepth 100000

theorem Try.cells30 : Try.prog.cellsOf 30 = 1 := by kernel_rfl
theorem Try.cells36 : Try.prog.cellsOf 36 = 4 := by kernel_rfl
theorem Try.cells38 : Try.prog.cellsOf 38 = 17 := by kernel_rfl
theorem Try.cells71 : Try.prog.cellsOf 71 = 5 := by kernel_rfl
theorem Try.cells4 : Try.prog.cellsOf 4 = 1 := by kernel_rfl

theorem bytes_int : Try.prog.bytesOf 2 = 8 := by kernel_rfl
theorem bytes_key : Try.prog.bytesOf 103 = 16 := by kernel_rfl
theorem bytes_txn : Try.prog.bytesOf 81 = 112 := by kernel_rfl
theorem bytes_tm : Try.prog.bytesOf 71 = 56 := by kernel_rfl
/-- No list within it takes more bytes than the row allows. -/
def Light {H : Type} (t : TypeId) (d : DataW H) : Prop := ∀ n ∈ d.weights Try.prog t, n ≤ reachBytes
theorem mem_each {H : Type} {P : Program} : ∀ (ts : List TypeId) (ds : List (DataW H)) (i : Nat) (t : TypeId) (d : DataW H) (n : Nat), ts[i]? = some t → ds[i]? = some d → n ∈ d.weights P t → n ∈ DataW.weightsEach P ts ds
  | [], _, i, t, d, n, h, _, _ => by simp at h
  | _ :: _, [], i, t, d, n, _, h, _ => by simp at h
  | t0 :: ts, d0 :: ds, 0, t, d, n, h1, h2, h3 => by
    simp only [List.getElem?_cons_zero, Option.some.injEq] at h1 h2
    subst h1 h2
    rw [DataW.weightsEach]
    exact List.mem_append_left _ h3
  | t0 :: ts, d0 :: ds, i + 1, t, d, n, h1, h2, h3 => by
    rw [DataW.weightsEach]
    exact List.mem_append_right _ (mem_each ts ds i t d n (by simpa using h1) (by simpa using h2) h3)
theorem mem_all {H : Type} {P : Program} {e : TypeId} : ∀ (ds : List (DataW H)) (d : DataW H) (n : Nat), d ∈ ds → n ∈ d.weights P e → n ∈ DataW.weightsAll P e ds
  | [], d, n, h, _ => by cases h
  | d0 :: ds, d, n, h, hn => by
    rw [DataW.weightsAll]
    rcases List.mem_cons.1 h with rfl | h
    · exact List.mem_append_left _ hn
    · exact List.mem_append_right _ (mem_all ds d n h hn)
theorem light_field {H : Type} {T : TypeId} {fs : Array Field} (hT : Try.prog.underlying T = some (.struct fs)) {ds : List (DataW H)} (h : Light T (.agg ds)) {i : Nat} {t : TypeId} {d : DataW H} (ht : (fs.toList.map (·.type))[i]? = some t) (hd : ds[i]? = some d) : Light t d := fun n hn => h n (by
  simp only [DataW.weights, hT]
  exact mem_each _ _ i t d n ht hd hn)
theorem light_arg {H : Type} {P : Program} {ts : List TypeId} {ds : List (DataW H)} (h : (DataW.weightsEach P ts ds).all (· ≤ reachBytes) = true) {i : Nat} {t : TypeId} {d : DataW H} (ht : ts[i]? = some t) (hd : ds[i]? = some d) : ∀ n ∈ d.weights P t, n ≤ reachBytes := fun n hn => of_decide_eq_true (List.all_eq_true.mp h n (mem_each _ _ i t d n ht hd hn))
theorem light_elem {H : Type} {T E : TypeId} (hT : Try.prog.underlying T = some (.slice E)) {es sp : List (DataW H)} (h : Light T (.slice es sp)) {d : DataW H} (hd : d ∈ es) : Light E d := fun n hn => h n (by
  simp only [DataW.weights, hT]
  exact List.mem_cons_of_mem _ (List.mem_append_left _ (mem_all _ d n hd hn)))
theorem light_len {H : Type} {T E : TypeId} (hT : Try.prog.underlying T = some (.slice E)) {es sp : List (DataW H)} (h : Light T (.slice es sp)) : es.length * Try.prog.bytesOf E ≤ 140737488351232 := by
  have h1 := h ((es.length + sp.length) * Try.prog.bytesOf E) (by simp only [DataW.weights, hT]; exact List.mem_cons_self ..)
  rw [Nat.add_mul] at h1
  simp only [reachBytes] at h1
  omega

section
variable {H : Type} {enc : TypeId × Value → H} {W : World}

theorem view_bytesR {fuel : Nat} {cs : List Value} {x : DataW H × List MemPlace} (hf : DataW.trod enc Try.prog W 0 (fun _ => true) true fuel 34 cs = some x) (hB : Light 34 x.1) : ∃ v zs, cs = [v] ∧ Sees W .u8 v zs ∧ Byt zs ∧ zs.length ≤ 140737488351232 := by
  rcases open_ints Try.underlying34 Try.underlying5 (by kernel_rfl) hf with ⟨rfl, hx⟩ | ⟨a, len, cap, zs, rfl, _, hl, hm, hz, rfl, hcell, hwz⟩
  · exact ⟨_, [], rfl, Sees.nil _ _, (fun b hb => by cases hb), by simp⟩
  · simp only [if_true] at hz
    have hlen : (zs.take len).length = len := by simp; omega
    have hb := light_len (H := H) Try.underlying34 hB
    rw [bytes_byte] at hb
    simp only [lits, List.length_map, hlen] at hb
    refine ⟨_, zs.take len, rfl, ⟨_, cap, by rw [hlen], by rw [hlen]; exact hl, (fun h => by cases h), fun a' h t ht => ?_⟩, (fun b hb => bounds_u8 (hwz b (List.mem_of_mem_take hb))), by rw [hlen]; omega⟩
    obtain rfl := Option.some.inj h
    rw [hlen] at ht
    rw [hcell t (by omega)]
    simp [List.getD, ht]
theorem view_intsR {fuel : Nat} {cs : List Value} {x : DataW H × List MemPlace} (hf : DataW.trod enc Try.prog W 0 (fun _ => true) true fuel 78 cs = some x) (hB : Light 78 x.1) : ∃ v zs, cs = [v] ∧ Sees W .i64 v zs ∧ (∀ b ∈ zs, -9223372036854775808 ≤ b ∧ b ≤ 9223372036854775807) ∧ zs.length ≤ 17592186043904 := by
  rcases open_ints Try.underlying78 Try.underlying2 (by kernel_rfl) hf with ⟨rfl, hx⟩ | ⟨a, len, cap, zs, rfl, _, hl, hm, hz, rfl, hcell, hwz⟩
  · exact ⟨_, [], rfl, Sees.nil _ _, (fun b hb => by cases hb), by simp⟩
  · simp only [if_true] at hz
    have hlen : (zs.take len).length = len := by simp; omega
    have hb := light_len (H := H) Try.underlying78 hB
    rw [bytes_int] at hb
    simp only [lits, List.length_map, hlen] at hb
    refine ⟨_, zs.take len, rfl, ⟨_, cap, by rw [hlen], by rw [hlen]; exact hl, (fun h => by cases h), fun a' h t ht => ?_⟩, (fun b hb => bounds_i64 (hwz b (List.mem_of_mem_take hb))), by rw [hlen]; omega⟩
    obtain rfl := Option.some.inj h
    rw [hlen] at ht
    rw [hcell t (by omega)]
    simp [List.getD, ht]
/-- A slice of parts of n cells each. -/
theorem view_listR {α : Type} [Inhabited α] {T E n M : Nat} (hM : ∀ k, k * Try.prog.bytesOf E ≤ 140737488351232 → k ≤ M) (hT : Try.prog.underlying T = some (.slice E)) (hE : Try.prog.cellsOf E = n) (hn : 0 < n) (cell : α → List Value) (ok : α → Prop) (hlen : ∀ a, (cell a).length = n)
    (each : ∀ fuel cs (x : DataW H × List MemPlace), cs.length = n → DataW.trod enc Try.prog W 0 (fun _ => true) true fuel E cs = some x → Light E x.1 → ∃ a, cs = cell a ∧ ok a)
    {fuel : Nat} {cs : List Value} {x : DataW H × List MemPlace} (hf : DataW.trod enc Try.prog W 0 (fun _ => true) true fuel T cs = some x) (hB : Light T x.1) :
    ∃ (a0 : Option Addr) (cap gb ob : Nat) (l : List α), cs = [.slice a0 l.length cap] ∧ l.length ≤ cap ∧ l.length ≤ M ∧ (0 < l.length → a0 = some ⟨gb, ob, none⟩) ∧ ∀ t, t < l.length → ok (l.getD t default) ∧ ∀ k, k < n → W.cell? ⟨gb, ob + t * n + k, none⟩ = (cell (l.getD t default))[k]? := by
  rcases open_slice hT hf with ⟨rfl, hx⟩ | ⟨a, len, c, m, fl, D, Pl, rfl, _, hl, hm, hmm, rfl, hx⟩
  · exact ⟨none, 0, 0, 0, [], rfl, by simp, by simp, (fun h => absurd h (by simp)), fun t h => absurd h (by simp)⟩
  · simp only [if_true] at hmm
    subst hmm
    obtain ⟨b, o, s⟩ := a
    have hbl := hM _ (light_len (H := H) hT hB)
    simp only [List.length_map, List.length_range] at hbl
    have hbe : ∀ i, i < len → Light E (D i) := fun i hi => light_elem hT hB (List.mem_map.2 ⟨i, by simpa using hi, rfl⟩)
    have ea : ∀ i, i < len → ∃ q : α, ok q ∧ ∀ k, k < n → W.cell? ((⟨b, o, s⟩ : Addr).add (i * n + k)) = (cell q)[k]? := by
      intro i hi
      obtain ⟨cs', h1, h2⟩ := hx i (by omega)
      rw [hE] at h1
      obtain ⟨_, hlen', hcell⟩ := World.cells?_some h1
      obtain ⟨q, rfl, hq⟩ := each _ _ _ hlen' h2 (hbe i hi)
      refine ⟨q, hq, fun k hk => ?_⟩
      have := hcell k hk
      rw [add_add] at this
      exact this
    obtain ⟨q, hq⟩ := choose_lt ea
    have hll : ((List.range len).map q).length = len := by simp
    have hget : ∀ t, t < len → ((List.range len).map q).getD t default = q t := fun t ht => by simp [List.getD, ht]
    have hspot : 0 < len → s = none := fun h0 => by
      have h1 := (hq 0 h0).2 0 hn
      have h2 : (cell (q 0))[0]? = some ((cell (q 0))[0]'(by rw [hlen]; exact hn)) := List.getElem?_eq_getElem _
      rw [h2] at h1
      simpa [Addr.add] using World.cell?_spot h1
    refine ⟨some ⟨b, o, s⟩, _, b, o, (List.range len).map q, by rw [hll], by rw [hll]; exact hl, by rw [hll]; omega, fun h0 => ?_, fun t ht => ?_⟩
    · rw [hll] at h0
      rw [hspot h0]
    · rw [hll] at ht
      rw [hget t ht]
      have hs := hspot (by omega)
      subst hs
      have ad : ∀ j, (⟨b, o, none⟩ : Addr).add j = ⟨b, o + j, none⟩ := fun j => by unfold Addr.add; split <;> simp_all
      exact ⟨(hq t ht).1, fun k hk => by rw [← (hq t ht).2 k hk, ad, Nat.add_assoc]⟩
theorem view_keysR {fuel : Nat} {cs : List Value} {x : DataW H × List MemPlace} (hf : DataW.trod enc Try.prog W 0 (fun _ => true) true fuel 79 cs = some x) (hB : Light 79 x.1) : ∃ v l, cs = [v] ∧ SeesK W v l ∧ OkK l ∧ l.length ≤ 8796093021952 := by
  obtain ⟨a0, cap, gb, ob, l, rfl, h1, h2, h3, h4⟩ := view_listR (M := 8796093021952) (fun k h => by rw [bytes_key] at h; omega) (α := Int × Int) Try.underlying79 Try.cells103 (by decide) (fun k => [.int .i32 k.1, .int .i64 k.2]) (fun k => (-2147483648 ≤ k.1 ∧ k.1 ≤ 2147483647) ∧ (-9223372036854775808 ≤ k.2 ∧ k.2 ≤ 9223372036854775807)) (fun _ => rfl) (fun _ _ _ hl hf _ => view_key hl hf) hf hB
  refine ⟨_, l, rfl, ⟨a0, cap, gb, ob, rfl, h1, by omega, h3, fun t ht => ⟨(h4 t ht).2 0 (by omega), (h4 t ht).2 1 (by omega)⟩⟩, fun k hk => ?_, h2⟩
  obtain ⟨i, hi, rfl⟩ := List.getElem_of_mem hk
  have := (h4 i hi).1
  have e : l.getD i default = l[i] := by simp [List.getD, hi]
  rw [e] at this
  exact this
theorem view_txnR {fuel : Nat} {cs : List Value} {x : DataW H × List MemPlace} (hl : cs.length = 6) (hf : DataW.trod enc Try.prog W 0 (fun _ => true) true fuel 81 cs = some x) (hB : Light 81 x.1) :
    ∃ p : TV, cs = [.int .i64 p.1.ses, .int .i64 p.1.req, p.2.1, p.2.2.1, p.2.2.2.1, p.2.2.2.2] ∧ (SeesT W #[.int .i64 p.1.ses, .int .i64 p.1.req, p.2.1, p.2.2.1, p.2.2.2.1, p.2.2.2.2] p.1 ∧ OkT p.1 ∧ SmallT p.1) := by
  obtain ⟨xs, n, _, rfl, _, hxl, hg⟩ := DataW.trod_struct Try.underlying81 hf
  obtain ⟨y0, y1, y2, y3, y4, y5, rfl⟩ := list6 hxl
  obtain ⟨v0, v1, v2, v3, v4, v5, rfl⟩ := list6 hl
  have g0 := hg 0 _ rfl
  have g1 := hg 1 _ rfl
  have g2 := hg 2 _ rfl
  have g3 := hg 3 _ rfl
  have g4 := hg 4 _ rfl
  have g5 := hg 5 _ rfl
  simp [Try.cells2, Try.cells34, Try.cells78, Try.cells79] at g0 g1 g2 g3 g4 g5
  obtain ⟨n0, e0, _, w0⟩ := DataW.trod_int Try.underlying2 g0
  obtain ⟨n1, e1, _, w1⟩ := DataW.trod_int Try.underlying2 g1
  obtain ⟨u2, zs, e2, hs2, hb2, k2⟩ := view_bytesR g2 (light_field Try.underlying81 hB (i := 2) rfl rfl)
  obtain ⟨u3, az, e3, hs3, hb3, k3⟩ := view_intsR g3 (light_field Try.underlying81 hB (i := 3) rfl rfl)
  obtain ⟨u4, rs, e4, hs4, hb4, k4⟩ := view_keysR g4 (light_field Try.underlying81 hB (i := 4) rfl rfl)
  obtain ⟨u5, ws, e5, hs5, hb5, k5⟩ := view_keysR g5 (light_field Try.underlying81 hB (i := 5) rfl rfl)
  simp only [List.cons.injEq, and_true] at e0 e1 e2 e3 e4 e5
  subst e0 e1 e2 e3 e4 e5
  exact ⟨(⟨n0, n1, zs, az, rs, ws⟩, v2, v3, v4, v5), rfl, ⟨_, _, _, _, rfl, hs2, hs3, hs4, hs5⟩, ⟨hb2, Nat.le_trans k3 (by decide)⟩, ⟨k2, k3, k4, k5⟩⟩
theorem view_txnsR {fuel : Nat} {cs : List Value} {x : DataW H × List MemPlace} (hf : DataW.trod enc Try.prog W 0 (fun _ => true) true fuel 31 cs = some x) (hB : Light 31 x.1) : ∃ v l, cs = [v] ∧ SeesTs W v l ∧ OkTs l ∧ l.length ≤ 1256584717421 ∧ ∀ t ∈ l, SmallT t := by
  obtain ⟨a0, cap, gb, ob, l, rfl, h1, h2, h3, h4⟩ := view_listR (M := 1256584717421) (fun k h => by rw [bytes_txn] at h; omega) (α := TV) Try.underlying31 Try.cells81 (by decide) (fun p => [.int .i64 p.1.ses, .int .i64 p.1.req, p.2.1, p.2.2.1, p.2.2.2.1, p.2.2.2.2]) (fun p => SeesT W #[.int .i64 p.1.ses, .int .i64 p.1.req, p.2.1, p.2.2.1, p.2.2.2.1, p.2.2.2.2] p.1 ∧ OkT p.1 ∧ SmallT p.1) (fun _ => rfl) (fun _ _ _ hl hf hB => view_txnR hl hf hB) hf hB
  have hm : ∀ t ∈ l.map (·.1), OkT t ∧ SmallT t := fun t ht => by
    obtain ⟨p, hp, rfl⟩ := List.mem_map.1 ht
    obtain ⟨i, hi, rfl⟩ := List.getElem_of_mem hp
    have := (h4 i hi).1
    have e : l.getD i default = l[i] := by simp [List.getD, hi]
    rw [e] at this
    exact this.2
  refine ⟨_, l.map (·.1), rfl, ⟨a0, cap, gb, ob, by simp, by simpa using h1, by simp; omega, by simpa using h3, fun t ht => ?_⟩, (fun t ht => (hm t ht).1), by simpa using h2, fun t ht => (hm t ht).2⟩
  have htl : t < l.length := by simpa using ht
  obtain ⟨hk, hc⟩ := h4 t htl
  have e : l.getD t default = l[t] := by simp [List.getD, htl]
  have e2 : (l.map (·.1)).getD t dT = l[t].1 := by simp [List.getD, htl]
  rw [e] at hk hc
  rw [e2]
  exact ⟨_, _, _, _, hc 0 (by omega), hc 1 (by omega), hc 2 (by omega), hc 3 (by omega), hc 4 (by omega), hc 5 (by omega), hk.1⟩
theorem view_entR {fuel : Nat} {cs : List Value} {x : DataW H × List MemPlace} (hl : cs.length = 4) (hf : DataW.trod enc Try.prog W 0 (fun _ => true) true fuel 33 cs = some x) (hB : Light 33 x.1) :
    ∃ (e : EntD) (tv : Value), cs = [.int .i64 e.kind, .int .i64 e.frm, .int .i64 e.num, tv] ∧ SeesTs W tv e.txns ∧ OkTs e.txns ∧ e.txns.length ≤ 1256584717421 ∧ ∀ t ∈ e.txns, SmallT t := by
  obtain ⟨xs, n, _, rfl, _, hxl, hg⟩ := DataW.trod_struct Try.underlying33 hf
  obtain ⟨y0, y1, y2, y3, rfl⟩ := list4 hxl
  obtain ⟨v0, v1, v2, v3, rfl⟩ := list4 hl
  have g0 := hg 0 _ rfl
  have g1 := hg 1 _ rfl
  have g2 := hg 2 _ rfl
  have g3 := hg 3 _ rfl
  simp [Try.cells2, Try.cells3, Try.cells31] at g0 g1 g2 g3
  obtain ⟨n0, e0, _, w0⟩ := DataW.trod_int Try.underlying3 g0
  obtain ⟨n1, e1, _, w1⟩ := DataW.trod_int Try.underlying3 g1
  obtain ⟨n2, e2, _, w2⟩ := DataW.trod_int Try.underlying2 g2
  obtain ⟨u3, l, e3, k1, k2, k3, k4⟩ := view_txnsR g3 (light_field Try.underlying33 hB (i := 3) rfl rfl)
  simp only [List.cons.injEq, and_true] at e0 e1 e2 e3
  subst e0 e1 e2 e3
  exact ⟨⟨n0, n1, n2, l⟩, v3, rfl, k1, k2, k3, k4⟩
instance : Inhabited TM2 := ⟨(dM, .slice none 0 0)⟩
theorem list5 {α : Type} {l : List α} (h : l.length = 5) : ∃ a b c d e, l = [a, b, c, d, e] := by
  match l, h with
  | [a, b, c, d, e], _ => exact ⟨a, b, c, d, e, rfl⟩
theorem view_tmR {fuel : Nat} {cs : List Value} {x : DataW H × List MemPlace} (hl : cs.length = 5) (hf : DataW.trod enc Try.prog W 0 (fun _ => true) true fuel 71 cs = some x) (hB : Light 71 x.1) :
    ∃ p : TM2, cs = tmCells p ∧ (SeesTs W p.2 p.1.ent.txns ∧ OkTs p.1.ent.txns ∧ SmallTm p.1) := by
  obtain ⟨xs, n, _, rfl, _, hxl, hg⟩ := DataW.trod_struct Try.underlying71 hf
  obtain ⟨y0, y1, rfl⟩ := list2 hxl
  obtain ⟨v0, v1, v2, v3, v4, rfl⟩ := list5 hl
  have g0 := hg 0 _ rfl
  have g1 := hg 1 _ rfl
  simp [Try.cells2, Try.cells33] at g0 g1
  obtain ⟨n0, e0, _, w0⟩ := DataW.trod_int Try.underlying2 g0
  obtain ⟨e, tv, e1, k1, k2, k3, k4⟩ := view_entR rfl g1 (light_field Try.underlying71 hB (i := 1) rfl rfl)
  simp only [List.cons.injEq, and_true] at e0 e1
  obtain ⟨rfl, rfl, rfl, rfl⟩ := e1
  subst e0
  exact ⟨(⟨n0, e⟩, v4), rfl, k1, k2, k3, k4⟩
theorem view_tmsR {fuel : Nat} {cs : List Value} {x : DataW H × List MemPlace} (hf : DataW.trod enc Try.prog W 0 (fun _ => true) true fuel 30 cs = some x) (hB : Light 30 x.1) : ∃ v l, cs = [v] ∧ SeesTms W v l ∧ OkTms l ∧ l.length ≤ 2513169434843 ∧ ∀ t ∈ l, SmallTm t := by
  obtain ⟨a0, cap, gb, ob, l, rfl, h1, h2, h3, h4⟩ := view_listR (M := 2513169434843) (fun k h => by rw [bytes_tm] at h; omega) (α := TM2) Try.underlying30 Try.cells71 (by decide) tmCells (fun p => SeesTs W p.2 p.1.ent.txns ∧ OkTs p.1.ent.txns ∧ SmallTm p.1) (fun _ => rfl) (fun _ _ _ hl hf hB => view_tmR hl hf hB) hf hB
  have hm : ∀ t ∈ l.map (·.1), OkTs t.ent.txns ∧ SmallTm t := fun t ht => by
    obtain ⟨p, hp, rfl⟩ := List.mem_map.1 ht
    obtain ⟨i, hi, rfl⟩ := List.getElem_of_mem hp
    have := (h4 i hi).1
    have e : l.getD i default = l[i] := by simp [List.getD, hi]
    rw [e] at this
    exact this.2
  refine ⟨_, l.map (·.1), rfl, ⟨a0, cap, gb, ob, by simp, by simpa using h1, by simp; omega, by simpa using h3, fun t ht => ?_⟩, (fun t ht => (hm t ht).1), by simpa using h2, fun t ht => (hm t ht).2⟩
  have htl : t < l.length := by simpa using ht
  obtain ⟨hk, hc⟩ := h4 t htl
  have e : l.getD t default = l[t] := by simp [List.getD, htl]
  have e2 : (l.map (·.1)).getD t dM = l[t].1 := by simp [List.getD, htl]
  rw [e] at hk hc
  rw [e2]
  exact ⟨_, hc 0 (by omega), hc 1 (by omega), hc 2 (by omega), hc 3 (by omega), hc 4 (by omega), hk.1⟩
theorem view_ptR {fuel : Nat} {cs : List Value} {x : DataW H × List MemPlace} (hl : cs.length = 4) (hf : DataW.trod enc Try.prog W 0 (fun _ => true) true fuel 36 cs = some x) (hB : Light 36 x.1) :
    ∃ (p : PtD) (dv : Value), cs = [.int .i64 p.slot, .int .i64 p.idx, .int .i64 p.many, dv] ∧ Sees W .u8 dv p.data ∧ Byt p.data ∧ p.data.length ≤ 140737488351232 := by
  obtain ⟨xs, n, _, rfl, _, hxl, hg⟩ := DataW.trod_struct Try.underlying36 hf
  obtain ⟨y0, y1, y2, y3, rfl⟩ := list4 hxl
  obtain ⟨v0, v1, v2, v3, rfl⟩ := list4 hl
  have g0 := hg 0 _ rfl
  have g1 := hg 1 _ rfl
  have g2 := hg 2 _ rfl
  have g3 := hg 3 _ rfl
  simp [Try.cells2, Try.cells3, Try.cells34] at g0 g1 g2 g3
  obtain ⟨n0, e0, _, w0⟩ := DataW.trod_int Try.underlying2 g0
  obtain ⟨n1, e1, _, w1⟩ := DataW.trod_int Try.underlying3 g1
  obtain ⟨n2, e2, _, w2⟩ := DataW.trod_int Try.underlying3 g2
  obtain ⟨u3, l, e3, k1, k2, k3⟩ := view_bytesR g3 (light_field Try.underlying36 hB (i := 3) rfl rfl)
  simp only [List.cons.injEq, and_true] at e0 e1 e2 e3
  subst e0 e1 e2 e3
  exact ⟨⟨n0, n1, n2, l⟩, v3, rfl, k1, k2, k3⟩
theorem list11 {α : Type} {l : List α} (h : l.length = 11) : ∃ a0 a1 a2 a3 a4 a5 a6 a7 a8 a9 a10, l = [a0, a1, a2, a3, a4, a5, a6, a7, a8, a9, a10] := by
  match l, h with
  | [a0, a1, a2, a3, a4, a5, a6, a7, a8, a9, a10], _ => exact ⟨a0, a1, a2, a3, a4, a5, a6, a7, a8, a9, a10, rfl⟩
theorem list17 {α : Type} {l : List α} (h : l.length = 17) : ∃ a0 a1 a2 a3 a4 a5 a6 a7 a8 a9 a10 a11 a12 a13 a14 a15 a16, l = [a0, a1, a2, a3, a4, a5, a6, a7, a8, a9, a10, a11, a12, a13, a14, a15, a16] := by
  match l, h with
  | [a0, a1, a2, a3, a4, a5, a6, a7, a8, a9, a10, a11, a12, a13, a14, a15, a16], _ => exact ⟨a0, a1, a2, a3, a4, a5, a6, a7, a8, a9, a10, a11, a12, a13, a14, a15, a16, rfl⟩
/-- An entry as an argument. -/
theorem view_entryR {r : Reach} {b0 : Nat} {v : Value} {d : DataW H} {p : List MemPlace} (hval : Value.okWide Try.prog W r b0 33 v) (hf : DataW.Trod enc Try.prog W 0 (fun _ => true) true 33 v d p) (hB : Light 33 d) :
    ∃ (e : EntD) (ta : Option Addr) (tc : Nat), v = .agg #[.int .i64 e.kind, .int .i64 e.frm, .int .i64 e.num, .slice ta e.txns.length tc] ∧ SeesTs W (.slice ta e.txns.length tc) e.txns ∧ OkTs e.txns ∧ e.txns.length ≤ 1256584717421 ∧ ∀ t ∈ e.txns, SmallT t := by
  obtain ⟨cs, rfl, hsz⟩ := okWide_struct Try.underlying33 hval
  obtain ⟨fuel, hf⟩ := hf
  rw [Try.cells33] at hsz
  have e : (Value.agg cs).cells.toList = cs.toList := by simp [Value.cells]
  rw [e] at hf
  obtain ⟨en, tv, hcs, k1, k2, k3, k4⟩ := view_entR (by simpa using hsz) hf hB
  obtain ⟨ta, tc, _, _, rfl, _⟩ := id k1
  refine ⟨en, ta, tc, ?_, k1, k2, k3, k4⟩
  have : cs = (cs.toList).toArray := by simp
  rw [this, hcs]
/-- A message as an argument. -/
theorem view_msgR {r : Reach} {b0 : Nat} {v : Value} {d : DataW H} {p : List MemPlace} (hval : Value.okWide Try.prog W r b0 38 v) (hf : DataW.Trod enc Try.prog W 0 (fun _ => true) true 38 v d p) (hB : Light 38 d) :
    ∃ cs m, v = .agg cs ∧ SeesM W cs m ∧ OkM m ∧ m.list.length ≤ 2513169434843 ∧ (∀ t ∈ m.list, SmallTm t) ∧ m.ent.txns.length ≤ 1256584717421 ∧ (∀ x ∈ m.ent.txns, SmallT x) ∧ m.part.data.length ≤ 140737488351232 := by
  obtain ⟨cs, rfl, hsz⟩ := okWide_struct Try.underlying38 hval
  obtain ⟨fuel, hf⟩ := hf
  rw [Try.cells38] at hsz
  have e : (Value.agg cs).cells.toList = cs.toList := by simp [Value.cells]
  rw [e] at hf
  obtain ⟨xs, n, _, hx, _, hxl, hg⟩ := DataW.trod_struct Try.underlying38 hf
  obtain ⟨y0, y1, y2, y3, y4, y5, y6, y7, y8, y9, y10, rfl⟩ := list11 hxl
  obtain ⟨v0, v1, v2, v3, v4, v5, v6, v7, v8, v9, v10, v11, v12, v13, v14, v15, v16, hcs⟩ := list17 (l := cs.toList) (by simpa using hsz)
  rw [hcs] at hg
  have g0 := hg 0 _ rfl
  have g1 := hg 1 _ rfl
  have g2 := hg 2 _ rfl
  have g3 := hg 3 _ rfl
  have g4 := hg 4 _ rfl
  have g5 := hg 5 _ rfl
  have g6 := hg 6 _ rfl
  have g7 := hg 7 _ rfl
  have g8 := hg 8 _ rfl
  have g9 := hg 9 _ rfl
  have g10 := hg 10 _ rfl
  simp [Try.cells2, Try.cells3, Try.cells4, Try.cells33, Try.cells30, Try.cells36] at g0 g1 g2 g3 g4 g5 g6 g7 g8 g9 g10
  simp only [Prod.mk.injEq] at hx
  obtain ⟨rfl, _⟩ := hx
  obtain ⟨n0, e0, _, _⟩ := DataW.trod_int Try.underlying3 g0
  obtain ⟨n1, e1, _, _⟩ := DataW.trod_int Try.underlying3 g1
  obtain ⟨n2, e2, _, _⟩ := DataW.trod_int Try.underlying3 g2
  obtain ⟨n3, e3, _, _⟩ := DataW.trod_int Try.underlying2 g3
  obtain ⟨n4, e4, _, _⟩ := DataW.trod_int Try.underlying2 g4
  obtain ⟨n5, e5, _, _⟩ := DataW.trod_int Try.underlying2 g5
  obtain ⟨n6, e6, _, _⟩ := DataW.trod_int Try.underlying2 g6
  obtain ⟨bY, e7, _⟩ := DataW.trod_bool Try.underlying4 g7
  obtain ⟨lv, ml, e8, a1, a2, a3, a4⟩ := view_tmsR g8 (light_field Try.underlying38 hB (i := 8) rfl rfl)
  obtain ⟨en, tv, e9, b1, b2, b3, b4⟩ := view_entR rfl g9 (light_field Try.underlying38 hB (i := 9) rfl rfl)
  obtain ⟨pt, dv, e10, c1, c2, c3⟩ := view_ptR rfl g10 (light_field Try.underlying38 hB (i := 10) rfl rfl)
  simp only [List.cons.injEq, and_true] at e0 e1 e2 e3 e4 e5 e6 e7 e8 e9 e10
  obtain ⟨rfl, rfl, rfl, rfl⟩ := e9
  obtain ⟨rfl, rfl, rfl, rfl⟩ := e10
  subst e0 e1 e2 e3 e4 e5 e6 e7 e8
  refine ⟨cs, ⟨n0, n1, n2, n3, n4, n5, n6, bY, ml, en, pt⟩, rfl, ⟨v8, v12, v16, ?_, a1, b1, c1⟩, ⟨a2, b2, c2⟩, a3, a4, b3, b4, c3⟩
  have : cs = (cs.toList).toArray := by simp
  rw [this, hcs]
end
end Go.Proofs.Ytoddemcmmijoaaa
