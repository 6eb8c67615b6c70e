/- Record: lists of transactions. -/
import Derived.Test.YtoddemcmmijoaaaXF
namespace Go.Proofs.Ytoddemcmmijoaaa
open Go.RowKit
set_option maxRecDepth 100000

def dT : TxnD := ⟨0, 0, [], [], [], []⟩
instance : Inhabited TxnD := ⟨dT⟩
/-- What lies in memory can be so. -/
def OkT (t : TxnD) : Prop := Byt t.code ∧ t.args.length ≤ 9223372036854775807
def OkTs (l : List TxnD) : Prop := ∀ t ∈ l, OkT t
theorem OkTs.at {l : List TxnD} (h : OkTs l) {t : Nat} (ht : t < l.length) : OkT (l.getD t dT) := by
  have : l.getD t dT = l[t] := by simp [List.getD, ht]
  rw [this]
  exact h _ (List.getElem_mem ht)

/-- A transaction's six cells. -/
def TxnAt (w : World) (gb o : Nat) (t : TxnD) : Prop :=
  ∃ cv av rv wv, w.cell? ⟨gb, o, none⟩ = some (.int .i64 t.ses) ∧ w.cell? ⟨gb, o + 1, none⟩ = some (.int .i64 t.req) ∧ w.cell? ⟨gb, o + 2, none⟩ = some cv ∧ w.cell? ⟨gb, o + 3, none⟩ = some av ∧ w.cell? ⟨gb, o + 4, none⟩ = some rv ∧ w.cell? ⟨gb, o + 5, none⟩ = some wv ∧
    SeesT w #[.int .i64 t.ses, .int .i64 t.req, cv, av, rv, wv] t
theorem TxnAt.below {w w' : World} {gb o : Nat} {t : TxnD} (h : TxnAt w gb o t) (hb : Below w.heap.size w w') : TxnAt w' gb o t := by
  obtain ⟨cv, av, rv, wv, h0, h1, h2, h3, h4, h5, hs⟩ := h
  have c : ∀ o u, w.cell? ⟨gb, o, none⟩ = some u → w'.cell? ⟨gb, o, none⟩ = some u := fun o u h => (hb.cell (p := ⟨gb, o, none⟩) (World.block_lt_of_cell? w _ h)).trans h
  exact ⟨cv, av, rv, wv, c _ _ h0, c _ _ h1, c _ _ h2, c _ _ h3, c _ _ h4, c _ _ h5, hs.below hb⟩
/-- A slice of transactions. -/
def SeesTs (w : World) (v : Value) (l : List TxnD) : Prop :=
  ∃ ao cap gb ob, v = .slice ao l.length cap ∧ l.length ≤ cap ∧ l.length ≤ 9223372036854775807 ∧ (0 < l.length → ao = some ⟨gb, ob, none⟩) ∧ ∀ t, t < l.length → TxnAt w gb (ob + t * 6) (l.getD t dT)
theorem SeesTs.below {w w' : World} {v : Value} {l : List TxnD} (h : SeesTs w v l) (hb : Below w.heap.size w w') : SeesTs w' v l := by
  obtain ⟨ao, cap, gb, ob, h1, h2, h3, h4, h5⟩ := h
  exact ⟨ao, cap, gb, ob, h1, h2, h3, h4, fun t ht => (h5 t ht).below hb⟩
theorem SeesTs.nil (w : World) : SeesTs w (.slice none 0 0) [] := ⟨none, 0, 0, 0, rfl, Nat.le_refl _, by simp, fun h => absurd h (by simp), fun t h => absurd h (by simp)⟩
/-- .. whose fields are slices. -/
theorem SeesT.shape {w : World} {cv av rv wv : Value} {t : TxnD} (h : SeesT w #[.int .i64 t.ses, .int .i64 t.req, cv, av, rv, wv] t) : ∃ ac cc aa ca ar cr aw cw, cv = .slice ac t.code.length cc ∧ av = .slice aa t.args.length ca ∧ rv = .slice ar t.reads.length cr ∧ wv = .slice aw t.writes.length cw := by
  obtain ⟨cv', av', rv', wv', e, h1, h2, h3, h4⟩ := h
  simp only [Array.mk.injEq, List.cons.injEq, true_and, and_true] at e
  obtain ⟨rfl, rfl, rfl, rfl⟩ := e
  obtain ⟨ac, cc, e1, _⟩ := h1
  obtain ⟨aa, ca, e2, _⟩ := h2
  obtain ⟨ar, cr, _, _, e3, _⟩ := h3
  obtain ⟨aw, cw, _, _, e4, _⟩ := h4
  exact ⟨ac, cc, aa, ca, ar, cr, aw, cw, e1, e2, e3, e4⟩

theorem all_no {l : List TxnD} {p : TxnD → Bool} {t : Nat} (ht : t < l.length) (h : p (l.getD t dT) = false) : l.all p = false := by
  have e : l.getD t dT = l[t] := by simp [List.getD, ht]
  rw [e] at h
  cases ha : l.all p with
  | false => rfl
  | true => rw [List.all_eq_true.1 ha _ (List.getElem_mem ht)] at h; cases h
theorem all_yes {l : List TxnD} {p : TxnD → Bool} (h : ∀ t, t < l.length → p (l.getD t dT) = true) : l.all p = true := by
  rw [List.all_eq_true]
  intro x hx
  obtain ⟨i, hi, rfl⟩ := List.getElem_of_mem hx
  have := h i hi
  simpa [List.getD, hi] using this

set_option maxHeartbeats 3200000 in
theorem all_any (v : Value) (l : List TxnD) (w : World) (hs : SeesTs w v l) :
    Calls Try.prog 58 #[v, .func (.func 59) #[] #[]] w fun e w' => e = .returned (.bool (l.all mayT)) ∧ Below w.heap.size w w' := by
  have HS : Hid (∀ w', Below w.heap.size w w' → SeesTs w' v l) := fun w' hb => hs.below hb
  obtain ⟨ao, cap, _, _, rfl, hcap, hmax, _⟩ := id hs
  clear hs
  go_enter Try.func58, Try.ntmps58
  go_wp2
  go_loopw [9] (fun c wr => ∃ t : Nat, t ≤ l.length ∧ c = .int .i64 t ∧ (∀ u, u < t → mayT (l.getD u dT) = true) ∧ Below w.heap.size w wr) (fun c _ => l.length - (intOf c).toNat)
  case atStart => exact ⟨0, by omega, rfl, fun u hu => absurd hu (by omega), Below.refl _ _⟩
  case round =>
    obtain ⟨t, ht, rfl, hall, hb⟩ := hrel
    have HA := hide hall
    have HB := hide hb
    by_cases hlt : t < l.length
    · obtain ⟨ao', cap', gb, ob, hv, _, _, hao, hcl⟩ := unhide HS wr hb
      simp only [Value.slice.injEq, true_and] at hv
      obtain ⟨rfl, rfl⟩ := hv
      obtain rfl := hao (by omega)
      obtain ⟨cvk, avk, rvk, wvk, kh0, kh1, kh2, kh3, kh4, kh5, khs⟩ := hcl t hlt
      obtain ⟨k1, kc1, k2, kc2, k3, kc3, k4, kc4, rfl, rfl, rfl, rfl⟩ := khs.shape
      obtain ⟨kd, ke⟩ : ∃ d, l.getD t dT = d := ⟨_, rfl⟩
      rw [ke] at kh0 kh1 kh2 kh3 kh4 kh5 khs
      obtain ⟨ks, kes⟩ : ∃ n, kd.ses = n := ⟨_, rfl⟩
      obtain ⟨kq, keq⟩ : ∃ n, kd.req = n := ⟨_, rfl⟩
      obtain ⟨kn1, ke1⟩ : ∃ n, kd.code.length = n := ⟨_, rfl⟩
      obtain ⟨kn2, ke2⟩ : ∃ n, kd.args.length = n := ⟨_, rfl⟩
      obtain ⟨kn3, ke3⟩ : ∃ n, kd.reads.length = n := ⟨_, rfl⟩
      obtain ⟨kn4, ke4⟩ : ∃ n, kd.writes.length = n := ⟨_, rfl⟩
      rw [kes, keq, ke1, ke2, ke3, ke4] at khs
      rw [kes] at kh0
      rw [keq] at kh1
      rw [ke1] at kh2
      rw [ke2] at kh3
      rw [ke3] at kh4
      rw [ke4] at kh5
      have kE := hide ke
      have kHS := hide khs
      clear khs ke kes keq ke1 ke2 ke3 ke4
      have hal : Below wr.heap.size wr (wr.alloc (.cells #[.int .i64 ks, .int .i64 kq, .slice k1 kn1 kc1, .slice k2 kn2 kc2, .slice k3 kn3 kc3, .slice k4 kn4 kc4] 81)) := (Below.refl _ _).alloc (Nat.le_refl _) _
      have HM := hide (txnMayBe_any _ kd _ ((unhide kHS).below hal))
      have HB1 : Hid (Below w.heap.size w (wr.alloc (.cells #[.int .i64 ks, .int .i64 kq, .slice k1 kn1 kc1, .slice k2 kn2 kc2, .slice k3 kn3 kc3, .slice k4 kn4 kc4] 81))) := hb.trans (hal.mono hb.size)
      clear hcl hao hall hb hal
      go_wp2_with fail
      refine (unhide HM).mono ?_
      rintro e w2 ⟨rfl, hb2⟩
      have HB2 : Hid (Below w.heap.size w w2) := (unhide HB1).trans (hb2.mono (unhide HB1).size)
      clear hb2 HM
      cases hmy : mayT kd with
      | false =>
        go_wp2
        go_ret
        exact ⟨retBool (all_no hlt (by rw [unhide kE]; exact hmy)).symm, unhide HB2⟩
      | true =>
        go_wp2
        go_roundw
        case rel =>
          refine ⟨t + 1, by omega, by go_num, fun u hu => ?_, unhide HB2⟩
          by_cases hut : u < t
          · exact unhide HA u hut
          · obtain rfl : u = t := by omega
            rw [unhide kE]; exact hmy
        case measure => simp [intOf]; omega
    · clear hall hb
      go_wp2
      go_ret
      exact ⟨retBool (all_yes (fun u hu => unhide HA u (by omega))).symm, unhide HB⟩

set_option maxHeartbeats 6400000 in
theorem equalFunc_any (av bv : Value) (xs ys : List TxnD) (w : World) (ha : SeesTs w av xs) (hb : SeesTs w bv ys) (hx : OkTs xs) (hy : OkTs ys) :
    Calls Try.prog 60 #[av, bv, .func (.func 61) #[] #[]] w fun e w' => e = .returned (.bool (decide (xs = ys))) ∧ Below w.heap.size w w' := by
  have HA : Hid (∀ w', Below w.heap.size w w' → SeesTs w' av xs) := fun w' h => ha.below h
  have HB : Hid (∀ w', Below w.heap.size w w' → SeesTs w' bv ys) := fun w' h => hb.below h
  have HX := hide hx
  have HY := hide hy
  obtain ⟨ao, ca, _, _, rfl, hca, hma, _⟩ := ha
  obtain ⟨bo, cb, _, _, rfl, hcb, _⟩ := hb
  clear hx hy
  by_cases hl : xs.length = ys.length
  · rw [← hl] at hcb ⊢
    have HL := hide hl
    rw [← hl] at HB
    clear hl
    go_enter Try.func60, Try.ntmps60
    go_wp2
    go_loopw [17] (fun c wr => ∃ t : Nat, t ≤ xs.length ∧ c = .int .i64 t ∧ (∀ u, u < t → xs.getD u dT = ys.getD u dT) ∧ Below w.heap.size w wr) (fun c _ => xs.length - (intOf c).toNat)
    case atStart => exact ⟨0, by omega, rfl, fun u hu => absurd hu (by omega), Below.refl _ _⟩
    case round =>
      obtain ⟨t, ht, rfl, heq, hb⟩ := hrel
      have HE := hide heq
      have HW := hide hb
      by_cases hlt : t < xs.length
      · obtain ⟨ao', ca', ga, oa, hv, _, _, ha', h1⟩ := unhide HA wr hb
        obtain ⟨bo', cb', gb, ob, hv', _, _, hb', h2⟩ := unhide HB wr hb
        simp only [Value.slice.injEq, true_and] at hv hv'
        obtain ⟨rfl, rfl⟩ := hv
        obtain ⟨rfl, hjunk, rfl⟩ := hv'
        clear hjunk
        obtain rfl := ha' (by omega)
        obtain rfl := hb' (by have := unhide HL; omega)
        have hlt2 : t < ys.length := by have := unhide HL; omega
        obtain ⟨cvk, avk, rvk, wvk, kh0, kh1, kh2, kh3, kh4, kh5, khs⟩ := h1 t hlt
        obtain ⟨k1, kc1, k2, kc2, k3, kc3, k4, kc4, rfl, rfl, rfl, rfl⟩ := khs.shape
        obtain ⟨kd, ke⟩ : ∃ d, xs.getD t dT = d := ⟨_, rfl⟩
        rw [ke] at kh0 kh1 kh2 kh3 kh4 kh5 khs
        obtain ⟨ks, kes⟩ : ∃ n, kd.ses = n := ⟨_, rfl⟩
        obtain ⟨kq, keq⟩ : ∃ n, kd.req = n := ⟨_, rfl⟩
        obtain ⟨kn1, ke1⟩ : ∃ n, kd.code.length = n := ⟨_, rfl⟩
        obtain ⟨kn2, ke2⟩ : ∃ n, kd.args.length = n := ⟨_, rfl⟩
        obtain ⟨kn3, ke3⟩ : ∃ n, kd.reads.length = n := ⟨_, rfl⟩
        obtain ⟨kn4, ke4⟩ : ∃ n, kd.writes.length = n := ⟨_, rfl⟩
        rw [kes, keq, ke1, ke2, ke3, ke4] at khs
        rw [kes] at kh0
        rw [keq] at kh1
        rw [ke1] at kh2
        rw [ke2] at kh3
        rw [ke3] at kh4
        rw [ke4] at kh5
        have kE := hide ke
        have kHS := hide khs
        clear khs ke kes keq ke1 ke2 ke3 ke4
        have hal1 : Below wr.heap.size wr (wr.alloc (.cells #[.int .i64 ks, .int .i64 kq, .slice k1 kn1 kc1, .slice k2 kn2 kc2, .slice k3 kn3 kc3, .slice k4 kn4 kc4] 81)) := (Below.refl _ _).alloc (Nat.le_refl _) _
        obtain ⟨cvm, avm, rvm, wvm, mh0, mh1, mh2, mh3, mh4, mh5, mhs⟩ := (h2 t hlt2).below hal1
        obtain ⟨m1, mc1, m2, mc2, m3, mc3, m4, mc4, rfl, rfl, rfl, rfl⟩ := mhs.shape
        obtain ⟨md, me⟩ : ∃ d, ys.getD t dT = d := ⟨_, rfl⟩
        rw [me] at mh0 mh1 mh2 mh3 mh4 mh5 mhs
        obtain ⟨ms, mes⟩ : ∃ n, md.ses = n := ⟨_, rfl⟩
        obtain ⟨mq, meq⟩ : ∃ n, md.req = n := ⟨_, rfl⟩
        obtain ⟨mn1, me1⟩ : ∃ n, md.code.length = n := ⟨_, rfl⟩
        obtain ⟨mn2, me2⟩ : ∃ n, md.args.length = n := ⟨_, rfl⟩
        obtain ⟨mn3, me3⟩ : ∃ n, md.reads.length = n := ⟨_, rfl⟩
        obtain ⟨mn4, me4⟩ : ∃ n, md.writes.length = n := ⟨_, rfl⟩
        rw [mes, meq, me1, me2, me3, me4] at mhs
        rw [mes] at mh0
        rw [meq] at mh1
        rw [me1] at mh2
        rw [me2] at mh3
        rw [me3] at mh4
        rw [me4] at mh5
        have mE := hide me
        have mHS := hide mhs
        clear mhs me mes meq me1 me2 me3 me4
        have hal2 : Below (wr.alloc (.cells #[.int .i64 ks, .int .i64 kq, .slice k1 kn1 kc1, .slice k2 kn2 kc2, .slice k3 kn3 kc3, .slice k4 kn4 kc4] 81)).heap.size (wr.alloc (.cells #[.int .i64 ks, .int .i64 kq, .slice k1 kn1 kc1, .slice k2 kn2 kc2, .slice k3 kn3 kc3, .slice k4 kn4 kc4] 81)) ((wr.alloc (.cells #[.int .i64 ks, .int .i64 kq, .slice k1 kn1 kc1, .slice k2 kn2 kc2, .slice k3 kn3 kc3, .slice k4 kn4 kc4] 81)).alloc (.cells #[.int .i64 ms, .int .i64 mq, .slice m1 mn1 mc1, .slice m2 mn2 mc2, .slice m3 mn3 mc3, .slice m4 mn4 mc4] 81)) := (Below.refl _ _).alloc (Nat.le_refl _) _
        have hal : Below wr.heap.size wr ((wr.alloc (.cells #[.int .i64 ks, .int .i64 kq, .slice k1 kn1 kc1, .slice k2 kn2 kc2, .slice k3 kn3 kc3, .slice k4 kn4 kc4] 81)).alloc (.cells #[.int .i64 ms, .int .i64 mq, .slice m1 mn1 mc1, .slice m2 mn2 mc2, .slice m3 mn3 mc3, .slice m4 mn4 mc4] 81)) := ((Below.refl _ _).alloc (Nat.le_refl _) _).alloc (by simp) _
        have hok := (unhide HX).at hlt
        have hoy := (unhide HY).at hlt2
        rw [unhide kE] at hok
        rw [unhide mE] at hoy
        have HM := hide (sameTxn_any _ _ kd md _ ((unhide kHS).below hal) ((unhide mHS).below hal2) hok.1 hoy.1 hok.2)
        have HB1 : Hid (Below w.heap.size w ((wr.alloc (.cells #[.int .i64 ks, .int .i64 kq, .slice k1 kn1 kc1, .slice k2 kn2 kc2, .slice k3 kn3 kc3, .slice k4 kn4 kc4] 81)).alloc (.cells #[.int .i64 ms, .int .i64 mq, .slice m1 mn1 mc1, .slice m2 mn2 mc2, .slice m3 mn3 mc3, .slice m4 mn4 mc4] 81))) := hb.trans (hal.mono hb.size)
        clear h1 h2 ha' hb' heq hb hal hal1 hal2 hok hoy
        go_wp2_with fail
        refine (unhide HM).mono ?_
        rintro e w2 ⟨rfl, hb2⟩
        have HB2 : Hid (Below w.heap.size w w2) := (unhide HB1).trans (hb2.mono (unhide HB1).size)
        clear hb2 HM
        by_cases hxy : kd = md
        · have hd : decide (kd = md) = true := by simpa using hxy
          rw [hd]
          go_wp2
          go_roundw
          case rel =>
            have hall : ∀ u, u < t + 1 → xs.getD u dT = ys.getD u dT := fun u hu => by
              by_cases hut : u < t
              · exact unhide HE u hut
              · obtain rfl : u = t := by omega
                rw [unhide kE, unhide mE, hxy]
            first | exact ⟨t + 1, by omega, by go_num, hall, unhide HB2⟩ | ((repeat apply Exists.intro); exact ⟨⟨t + 1, by omega, by go_num, hall, unhide HB2⟩, rfl⟩)
          case measure => simp [intOf]; omega
        · have hd : decide (kd = md) = false := by simpa using hxy
          rw [hd]
          go_wp2
          go_ret
          refine ⟨retBool ?_, unhide HB2⟩
          rw [eq_comm, decide_eq_false_iff_not]
          exact list_differ (d := dT) (t := t) (by rw [unhide kE, unhide mE]; exact hxy)
      · clear hb heq
        go_wp2
        go_ret
        refine ⟨retBool ?_, unhide HW⟩
        rw [eq_comm, decide_eq_true_iff]
        exact list_alike (d := dT) (unhide HL) (fun u hu => unhide HE u (by omega))
  · have hd : decide (xs = ys) = false := by rw [decide_eq_false_iff_not]; exact fun e => hl (by rw [e])
    rw [hd]
    go_enter Try.func60, Try.ntmps60
    go_wp2
    go_ret
    exact ⟨rfl, Below.refl _ _⟩
end Go.Proofs.Ytoddemcmmijoaaa
