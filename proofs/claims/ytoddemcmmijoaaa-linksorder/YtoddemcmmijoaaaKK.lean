/- Several texts as one. -/
import Derived.Test.YtoddemcmmijoaaaXG
import Derived.Deep.RegionHeld3

/- Record: entries. -/
namespace Go.Proofs.Ytoddemcmmijoaaa
open Go.RowKit
set_option maxRecDepth 100000

/-- An entry of the log. -/
structure EntD where
  kind : Int
  frm : Int
  num : Int
  txns : List TxnD
deriving DecidableEq
def dE : EntD := ⟨0, 0, 0, []⟩
def SeesE (w : World) (cs : Array Value) (e : EntD) : Prop := ∃ tv, cs = #[.int .i64 e.kind, .int .i64 e.frm, .int .i64 e.num, tv] ∧ SeesTs w tv e.txns
theorem SeesE.below {w w' : World} {cs : Array Value} {e : EntD} (h : SeesE w cs e) (hb : Below w.heap.size w w') : SeesE w' cs e := by
  obtain ⟨tv, h0, h1⟩ := h
  exact ⟨tv, h0, h1.below hb⟩
theorem SeesE.zero (w : World) : SeesE w #[.int .i64 0, .int .i64 0, .int .i64 0, .slice none 0 0] dE := ⟨_, rfl, SeesTs.nil w⟩
def mayE (e : EntD) : Bool := if e.kind = 0 then decide (e = dE) else if e.kind = 1 then isRep e.frm && isCnt e.num && decide (1 ≤ e.txns.length) && decide (e.txns.length ≤ 16) && e.txns.all mayT else false
theorem sameE_eq (t u : EntD) : decide (t = u) = (decide (t.kind = u.kind) && decide (t.frm = u.frm) && decide (t.num = u.num) && decide (t.txns = u.txns)) := by
  obtain ⟨a, b, c, d⟩ := t
  obtain ⟨a', b', c', d'⟩ := u
  simp [EntD.mk.injEq, Bool.and_assoc]

set_option maxHeartbeats 3200000 in
theorem sameEntry_any (cs ds : Array Value) (t u : EntD) (w : World) (ht : SeesE w cs t) (hu : SeesE w ds u) (ot : OkTs t.txns) (ou : OkTs u.txns) :
    Calls Try.prog 53 #[.agg cs, .agg ds] w fun e w' => e = .returned (.bool (decide (t = u))) ∧ Below w.heap.size w w' := by
  rw [sameE_eq]
  obtain ⟨tk, tf, tn, ttxns⟩ := t
  obtain ⟨uk, uf, un, utxns⟩ := u
  obtain ⟨_, rfl, ht⟩ := ht
  obtain ⟨_, rfl, hu⟩ := hu
  simp only at ht hu ot ou ⊢
  have HT : Hid (∀ w', Below w.heap.size w w' → SeesTs w' _ ttxns) := fun w' h => ht.below h
  have HU : Hid (∀ w', Below w.heap.size w w' → SeesTs w' _ utxns) := fun w' h => hu.below h
  obtain ⟨ta, tc, _, _, rfl, htc, htm, _⟩ := ht
  obtain ⟨ua, uc, _, _, rfl, huc, hum, _⟩ := hu
  have HOT := hide ot
  have HOU := hide ou
  clear ot ou
  have HB : Hid (Below w.heap.size w ((w.alloc (.cells #[.int .i64 tk, .int .i64 tf, .int .i64 tn, .slice ta ttxns.length tc] 33)).alloc (.cells #[.int .i64 uk, .int .i64 uf, .int .i64 un, .slice ua utxns.length uc] 33))) := ((Below.refl _ _).alloc (Nat.le_refl _) _).alloc (by simp) _
  have HQ := hide (equalFunc_any _ _ ttxns utxns ((w.alloc (.cells #[.int .i64 tk, .int .i64 tf, .int .i64 tn, .slice ta ttxns.length tc] 33)).alloc (.cells #[.int .i64 uk, .int .i64 uf, .int .i64 un, .slice ua utxns.length uc] 33)) (unhide HT _ (unhide HB)) (unhide HU _ (unhide HB)) (unhide HOT) (unhide HOU))
  by_cases h1 : tk = uk
  case neg =>
    go_enter Try.func53, Try.ntmps53
    go_wp2_with fail
    go_ret
    exact ⟨retBool (by simp [h1]), unhide HB⟩
  subst h1
  by_cases h2 : tf = uf
  case neg =>
    go_enter Try.func53, Try.ntmps53
    go_wp2_with fail
    go_ret
    exact ⟨retBool (by simp [h2]), unhide HB⟩
  subst h2
  by_cases h3 : tn = un
  case neg =>
    go_enter Try.func53, Try.ntmps53
    go_wp2_with fail
    go_ret
    exact ⟨retBool (by simp [h3]), unhide HB⟩
  subst h3
  go_enter Try.func53, Try.ntmps53
  go_wp2_with fail
  refine (unhide HQ).mono ?_
  rintro e w2 ⟨rfl, hb2⟩
  have HB2 : Hid (Below w.heap.size w w2) := (unhide HB).trans (hb2.mono (unhide HB).size)
  clear hb2
  go_wp2_with fail
  go_ret
  exact ⟨retBool (by simp), unhide HB2⟩

set_option maxHeartbeats 6400000 in
theorem refSameEntry_any (cs ds : Array Value) (t u : EntD) (w : World) (ht : SeesE w cs t) (hu : SeesE w ds u) (ot : OkTs t.txns) (ou : OkTs u.txns) :
    Calls Try.prog 23 #[.agg cs, .agg ds] w fun e w' => e = .returned (.bool (decide (t = u))) ∧ Below w.heap.size w w' := by
  rw [sameE_eq]
  obtain ⟨tk, tf, tn, ttxns⟩ := t
  obtain ⟨uk, uf, un, utxns⟩ := u
  obtain ⟨_, rfl, ht⟩ := ht
  obtain ⟨_, rfl, hu⟩ := hu
  simp only at ht hu ot ou ⊢
  have HT : Hid (∀ w', Below w.heap.size w w' → SeesTs w' _ ttxns) := fun w' h => ht.below h
  have HU : Hid (∀ w', Below w.heap.size w w' → SeesTs w' _ utxns) := fun w' h => hu.below h
  obtain ⟨ta, tc, _, _, rfl, htc, htm, _⟩ := ht
  obtain ⟨ua, uc, _, _, rfl, huc, hum, _⟩ := hu
  have HOT := hide ot
  have HOU := hide ou
  clear ot ou
  have HB : Hid (Below w.heap.size w ((w.alloc (.cells #[.int .i64 tk, .int .i64 tf, .int .i64 tn, .slice ta ttxns.length tc] 33)).alloc (.cells #[.int .i64 uk, .int .i64 uf, .int .i64 un, .slice ua utxns.length uc] 33))) := ((Below.refl _ _).alloc (Nat.le_refl _) _).alloc (by simp) _
  by_cases h1 : tk = uk
  case neg =>
    go_enter Try.func23, Try.ntmps23
    go_wp2_with fail
    go_ret
    exact ⟨retBool (by simp [h1]), unhide HB⟩
  subst h1
  by_cases h2 : tf = uf
  case neg =>
    go_enter Try.func23, Try.ntmps23
    go_wp2_with fail
    go_ret
    exact ⟨retBool (by simp [h2]), unhide HB⟩
  subst h2
  by_cases h3 : tn = un
  case neg =>
    go_enter Try.func23, Try.ntmps23
    go_wp2_with fail
    go_ret
    exact ⟨retBool (by simp [h3]), unhide HB⟩
  subst h3
  by_cases hl : ttxns.length = utxns.length
  case neg =>
    have hd : decide (ttxns = utxns) = false := by rw [decide_eq_false_iff_not]; exact fun e => hl (by rw [e])
    rw [hd]
    go_enter Try.func23, Try.ntmps23
    go_wp2_with fail
    go_ret
    exact ⟨retBool (by simp), unhide HB⟩
  rw [← hl] at HB huc HU ⊢
  have HL := hide hl
  clear hl hum
  have HBX : Hid (∀ w' : World, Below (w.heap.size + 2) ((w.alloc (.cells #[.int .i64 tk, .int .i64 tf, .int .i64 tn, .slice ta ttxns.length tc] 33)).alloc (.cells #[.int .i64 tk, .int .i64 tf, .int .i64 tn, .slice ua ttxns.length uc] 33)) w' → w'.cell? ⟨w.heap.size, 3, none⟩ = some (.slice ta ttxns.length tc) ∧ w'.cell? ⟨w.heap.size + 1, 3, none⟩ = some (.slice ua ttxns.length uc)) := fun w' hb => by
    have e : (w.alloc (.cells #[.int .i64 tk, .int .i64 tf, .int .i64 tn, .slice ta ttxns.length tc] 33)).heap.size = w.heap.size + 1 := by simp
    refine ⟨?_, ?_⟩
    · rw [hb.cell (p := ⟨w.heap.size, 3, none⟩) (by simp), World.cell?_alloc_lt _ _ _ (by simp), World.cell?_alloc_new]; rfl
    · rw [hb.cell (p := ⟨w.heap.size + 1, 3, none⟩) (by simp), ← e, World.cell?_alloc_new]; rfl
  go_enter Try.func23, Try.ntmps23
  go_wp2
  go_loopw [5] (fun c wr => ∃ t : Nat, t ≤ ttxns.length ∧ c = .int .i64 t ∧ (∀ u, u < t → ttxns.getD u dT = utxns.getD u dT) ∧ Below (w.heap.size + 2) ((w.alloc (.cells #[.int .i64 tk, .int .i64 tf, .int .i64 tn, .slice ta ttxns.length tc] 33)).alloc (.cells #[.int .i64 tk, .int .i64 tf, .int .i64 tn, .slice ua ttxns.length uc] 33)) wr) (fun c _ => ttxns.length - (intOf c).toNat)
  case atStart => exact ⟨0, by omega, rfl, fun u hu => absurd hu (by omega), Below.refl _ _⟩
  case round =>
    obtain ⟨t, ht, rfl, heq, hb⟩ := hrel
    have HE := hide heq
    have HW := hide hb
    have hbw : Below w.heap.size w wr := (unhide HB).trans (hb.mono (by omega))
    have HBW := hide hbw
    obtain ⟨x3, y3⟩ := unhide HBX wr hb
    by_cases hlt : t < ttxns.length
    · obtain ⟨ao', ca', ga, oa, hv, _, _, ha', h1⟩ := unhide HT wr hbw
      obtain ⟨bo', cb', gb, ob, hv', _, _, hb', h2⟩ := unhide HU wr hbw
      simp only [Value.slice.injEq, true_and] at hv hv'
      obtain ⟨rfl, rfl⟩ := hv
      obtain ⟨rfl, hjunk, rfl⟩ := hv'
      clear hjunk
      obtain rfl := ha' (by omega)
      obtain rfl := hb' (by have := unhide HL; omega)
      have hlt2 : t < utxns.length := by have := unhide HL; omega
      obtain ⟨cvk, avk, rvk, wvk, kh0, kh1, kh2, kh3, kh4, kh5, khs⟩ := h1 t hlt
      obtain ⟨k1, kc1, k2, kc2, k3, kc3, k4, kc4, rfl, rfl, rfl, rfl⟩ := khs.shape
      obtain ⟨kd, ke⟩ : ∃ d, ttxns.getD t dT = d := ⟨_, rfl⟩
      rw [ke] at kh0 kh1 kh2 kh3 kh4 kh5 khs
      obtain ⟨ks, kes⟩ : ∃ n, kd.ses = n := ⟨_, rfl⟩
      obtain ⟨kq, keq⟩ : ∃ n, kd.req = n := ⟨_, rfl⟩
      obtain ⟨kn1, ke1⟩ : ∃ n, kd.code.length = n := ⟨_, rfl⟩
      obtain ⟨kn2, ke2⟩ : ∃ n, kd.args.length = n := ⟨_, rfl⟩
      obtain ⟨kn3, ke3⟩ : ∃ n, kd.reads.length = n := ⟨_, rfl⟩
      obtain ⟨kn4, ke4⟩ : ∃ n, kd.writes.length = n := ⟨_, rfl⟩
      rw [kes, keq, ke1, ke2, ke3, ke4] at khs
      rw [kes] at kh0
      rw [keq] at kh1
      rw [ke1] at kh2
      rw [ke2] at kh3
      rw [ke3] at kh4
      rw [ke4] at kh5
      have kE := hide ke
      have kHS := hide khs
      clear khs ke kes keq ke1 ke2 ke3 ke4
      obtain ⟨cvm, avm, rvm, wvm, mh0, mh1, mh2, mh3, mh4, mh5, mhs⟩ := h2 t hlt2
      obtain ⟨m1, mc1, m2, mc2, m3, mc3, m4, mc4, rfl, rfl, rfl, rfl⟩ := mhs.shape
      obtain ⟨md, me⟩ : ∃ d, utxns.getD t dT = d := ⟨_, rfl⟩
      rw [me] at mh0 mh1 mh2 mh3 mh4 mh5 mhs
      obtain ⟨ms, mes⟩ : ∃ n, md.ses = n := ⟨_, rfl⟩
      obtain ⟨mq, meq⟩ : ∃ n, md.req = n := ⟨_, rfl⟩
      obtain ⟨mn1, me1⟩ : ∃ n, md.code.length = n := ⟨_, rfl⟩
      obtain ⟨mn2, me2⟩ : ∃ n, md.args.length = n := ⟨_, rfl⟩
      obtain ⟨mn3, me3⟩ : ∃ n, md.reads.length = n := ⟨_, rfl⟩
      obtain ⟨mn4, me4⟩ : ∃ n, md.writes.length = n := ⟨_, rfl⟩
      rw [mes, meq, me1, me2, me3, me4] at mhs
      rw [mes] at mh0
      rw [meq] at mh1
      rw [me1] at mh2
      rw [me2] at mh3
      rw [me3] at mh4
      rw [me4] at mh5
      have mE := hide me
      have mHS := hide mhs
      clear mhs me mes meq me1 me2 me3 me4
      have hok := (unhide HOT).at hlt
      have hoy := (unhide HOU).at hlt2
      rw [unhide kE] at hok
      rw [unhide mE] at hoy
      have hdr : Below wr.heap.size wr wr.drew := (Below.refl _ _).drew
      have HM := hide (refSameTxn_any _ _ kd md _ ((unhide kHS).below hdr) ((unhide mHS).below hdr) hok.1 hoy.1 hok.2)
      have HSS : Hid (∀ w' : World, Below wr.heap.size wr w' → (fun w' : World => w'.cell? ⟨w.heap.size, 3, none⟩ = some (.slice (some ⟨ga, oa, none⟩) ttxns.length tc) ∧ w'.cell? ⟨w.heap.size + 1, 3, none⟩ = some (.slice (some ⟨gb, ob, none⟩) ttxns.length uc) ∧ w'.cell? ⟨ga, oa + t * 6, none⟩ = some (.int .i64 ks) ∧ w'.cell? ⟨ga, oa + t * 6 + 1, none⟩ = some (.int .i64 kq) ∧ w'.cell? ⟨ga, oa + t * 6 + 2, none⟩ = some (.slice k1 kn1 kc1) ∧ w'.cell? ⟨ga, oa + t * 6 + 3, none⟩ = some (.slice k2 kn2 kc2) ∧ w'.cell? ⟨ga, oa + t * 6 + 4, none⟩ = some (.slice k3 kn3 kc3) ∧ w'.cell? ⟨ga, oa + t * 6 + 5, none⟩ = some (.slice k4 kn4 kc4) ∧ w'.cell? ⟨gb, ob + t * 6, none⟩ = some (.int .i64 ms) ∧ w'.cell? ⟨gb, ob + t * 6 + 1, none⟩ = some (.int .i64 mq) ∧ w'.cell? ⟨gb, ob + t * 6 + 2, none⟩ = some (.slice m1 mn1 mc1) ∧ w'.cell? ⟨gb, ob + t * 6 + 3, none⟩ = some (.slice m2 mn2 mc2) ∧ w'.cell? ⟨gb, ob + t * 6 + 4, none⟩ = some (.slice m3 mn3 mc3) ∧ w'.cell? ⟨gb, ob + t * 6 + 5, none⟩ = some (.slice m4 mn4 mc4)) w') := fun w' hbb => by
        have c : ∀ g o u, wr.cell? ⟨g, o, none⟩ = some u → w'.cell? ⟨g, o, none⟩ = some u := fun g o u h => (hbb.cell (p := ⟨g, o, none⟩) (World.block_lt_of_cell? wr _ h)).trans h
        exact ⟨c _ _ _ x3, c _ _ _ y3, c _ _ _ kh0, c _ _ _ kh1, c _ _ _ kh2, c _ _ _ kh3, c _ _ _ kh4, c _ _ _ kh5, c _ _ _ mh0, c _ _ _ mh1, c _ _ _ mh2, c _ _ _ mh3, c _ _ _ mh4, c _ _ _ mh5⟩
      have HS0 := hide (unhide HSS _ hdr)
      clear h1 h2 ha' hb' heq hb hbw hok hoy hdr
      go_wp2_with fail
      refine wp_region_held_drew (S := fun w' : World => w'.cell? ⟨w.heap.size, 3, none⟩ = some (.slice (some ⟨ga, oa, none⟩) ttxns.length tc) ∧ w'.cell? ⟨w.heap.size + 1, 3, none⟩ = some (.slice (some ⟨gb, ob, none⟩) ttxns.length uc) ∧ w'.cell? ⟨ga, oa + t * 6, none⟩ = some (.int .i64 ks) ∧ w'.cell? ⟨ga, oa + t * 6 + 1, none⟩ = some (.int .i64 kq) ∧ w'.cell? ⟨ga, oa + t * 6 + 2, none⟩ = some (.slice k1 kn1 kc1) ∧ w'.cell? ⟨ga, oa + t * 6 + 3, none⟩ = some (.slice k2 kn2 kc2) ∧ w'.cell? ⟨ga, oa + t * 6 + 4, none⟩ = some (.slice k3 kn3 kc3) ∧ w'.cell? ⟨ga, oa + t * 6 + 5, none⟩ = some (.slice k4 kn4 kc4) ∧ w'.cell? ⟨gb, ob + t * 6, none⟩ = some (.int .i64 ms) ∧ w'.cell? ⟨gb, ob + t * 6 + 1, none⟩ = some (.int .i64 mq) ∧ w'.cell? ⟨gb, ob + t * 6 + 2, none⟩ = some (.slice m1 mn1 mc1) ∧ w'.cell? ⟨gb, ob + t * 6 + 3, none⟩ = some (.slice m2 mn2 mc2) ∧ w'.cell? ⟨gb, ob + t * 6 + 4, none⟩ = some (.slice m3 mn3 mc3) ∧ w'.cell? ⟨gb, ob + t * 6 + 5, none⟩ = some (.slice m4 mn4 mc4)) (by kernel_rfl) (unhide HS0) (fun hHeld => ?_)
      refine wpAnyH_take (i := 0) (v := ?v1x0) rfl (by kernel_rfl) (by kernel_rfl) (by kernel_rfl) (fun _ _ _ h => h) (Or.inl ⟨by rfl, ?hy1x0⟩) (by assumption) ?rest1x0
      case hy1x0 => intro w hSw; obtain ⟨s1, s2, s3, s4, s5, s6, s7, s8, s9, s10, s11, s12, s13, s14⟩ := hSw; go_simp <;> with_reducible rfl
      simp only [Act.put, List.getElem_toArray, List.getElem_cons_zero, List.setIfInBounds_toArray, List.set_cons_zero, List.set_cons_succ]
      refine wpAnyH_take (i := 1) (v := .slice (some ⟨ga, oa, none⟩) ttxns.length tc) rfl (by kernel_rfl) (by kernel_rfl) (by kernel_rfl) (fun _ _ _ h => h) (Or.inl ⟨by rfl, ?hy2x1⟩) (by assumption) ?rest2x1
      case hy2x1 => intro w hSw; obtain ⟨s1, s2, s3, s4, s5, s6, s7, s8, s9, s10, s11, s12, s13, s14⟩ := hSw; go_simp <;> with_reducible rfl
      simp only [Act.put, List.getElem_toArray, List.getElem_cons_zero, List.getElem_cons_succ, List.setIfInBounds_toArray, List.set_cons_zero, List.set_cons_succ]
      refine wpAnyH_take (i := 2) (v := ?v3x2) rfl (by kernel_rfl) (by kernel_rfl) (by kernel_rfl) (fun _ _ _ h => h) (Or.inl ⟨by rfl, ?hy3x2⟩) (by assumption) ?rest3x2
      case hy3x2 => intro w hSw; obtain ⟨s1, s2, s3, s4, s5, s6, s7, s8, s9, s10, s11, s12, s13, s14⟩ := hSw; go_simp <;> with_reducible rfl
      simp only [Act.put, List.getElem_toArray, List.getElem_cons_zero, List.getElem_cons_succ, List.setIfInBounds_toArray, List.set_cons_zero, List.set_cons_succ]
      refine wpAnyH_take (i := 3) (v := ?v4x3) rfl (by kernel_rfl) (by kernel_rfl) (by kernel_rfl) (fun _ _ _ h => h) (Or.inl ⟨by rfl, ?hy4x3⟩) (by assumption) ?rest4x3
      case hy4x3 => intro w hSw; obtain ⟨s1, s2, s3, s4, s5, s6, s7, s8, s9, s10, s11, s12, s13, s14⟩ := hSw; go_simp <;> with_reducible rfl
      simp only [Act.put, List.getElem_toArray, List.getElem_cons_zero, List.getElem_cons_succ, List.setIfInBounds_toArray, List.set_cons_zero, List.set_cons_succ]
      refine wpAnyH_take (i := 4) (v := .agg #[.int .i64 ks, .int .i64 kq, .slice k1 kn1 kc1, .slice k2 kn2 kc2, .slice k3 kn3 kc3, .slice k4 kn4 kc4]) rfl (by kernel_rfl) (by kernel_rfl) (by kernel_rfl) (fun _ _ _ h => h) (Or.inl ⟨by rfl, ?hy5x4⟩) (by assumption) ?rest5x4
      case hy5x4 => intro w hSw; obtain ⟨s1, s2, s3, s4, s5, s6, s7, s8, s9, s10, s11, s12, s13, s14⟩ := hSw; go_simp <;> with_reducible rfl
      simp only [Act.put, List.getElem_toArray, List.getElem_cons_zero, List.getElem_cons_succ, List.setIfInBounds_toArray, List.set_cons_zero, List.set_cons_succ]
      refine wpAnyH_take (i := 5) (v := ?v6x5) rfl (by kernel_rfl) (by kernel_rfl) (by kernel_rfl) (fun _ _ _ h => h) (Or.inl ⟨by rfl, ?hy6x5⟩) (by assumption) ?rest6x5
      case hy6x5 => intro w hSw; obtain ⟨s1, s2, s3, s4, s5, s6, s7, s8, s9, s10, s11, s12, s13, s14⟩ := hSw; go_simp <;> with_reducible rfl
      simp only [Act.put, List.getElem_toArray, List.getElem_cons_zero, List.getElem_cons_succ, List.setIfInBounds_toArray, List.set_cons_zero, List.set_cons_succ]
      refine wpAnyH_take (i := 6) (v := .slice (some ⟨gb, ob, none⟩) ttxns.length uc) rfl (by kernel_rfl) (by kernel_rfl) (by kernel_rfl) (fun _ _ _ h => h) (Or.inl ⟨by rfl, ?hy7x6⟩) (by assumption) ?rest7x6
      case hy7x6 => intro w hSw; obtain ⟨s1, s2, s3, s4, s5, s6, s7, s8, s9, s10, s11, s12, s13, s14⟩ := hSw; go_simp <;> with_reducible rfl
      simp only [Act.put, List.getElem_toArray, List.getElem_cons_zero, List.getElem_cons_succ, List.setIfInBounds_toArray, List.set_cons_zero, List.set_cons_succ]
      refine wpAnyH_take (i := 7) (v := ?v8x7) rfl (by kernel_rfl) (by kernel_rfl) (by kernel_rfl) (fun _ _ _ h => h) (Or.inl ⟨by rfl, ?hy8x7⟩) (by assumption) ?rest8x7
      case hy8x7 => intro w hSw; obtain ⟨s1, s2, s3, s4, s5, s6, s7, s8, s9, s10, s11, s12, s13, s14⟩ := hSw; go_simp <;> with_reducible rfl
      simp only [Act.put, List.getElem_toArray, List.getElem_cons_zero, List.getElem_cons_succ, List.setIfInBounds_toArray, List.set_cons_zero, List.set_cons_succ]
      refine wpAnyH_take (i := 8) (v := ?v9x8) rfl (by kernel_rfl) (by kernel_rfl) (by kernel_rfl) (fun _ _ _ h => h) (Or.inl ⟨by rfl, ?hy9x8⟩) (by assumption) ?rest9x8
      case hy9x8 => intro w hSw; obtain ⟨s1, s2, s3, s4, s5, s6, s7, s8, s9, s10, s11, s12, s13, s14⟩ := hSw; go_simp <;> with_reducible rfl
      simp only [Act.put, List.getElem_toArray, List.getElem_cons_zero, List.getElem_cons_succ, List.setIfInBounds_toArray, List.set_cons_zero, List.set_cons_succ]
      refine wpAnyH_take (i := 9) (v := .agg #[.int .i64 ms, .int .i64 mq, .slice m1 mn1 mc1, .slice m2 mn2 mc2, .slice m3 mn3 mc3, .slice m4 mn4 mc4]) rfl (by kernel_rfl) (by kernel_rfl) (by kernel_rfl) (fun _ _ _ h => h) (Or.inl ⟨by rfl, ?hy10x9⟩) (by assumption) ?rest10x9
      case hy10x9 => intro w hSw; obtain ⟨s1, s2, s3, s4, s5, s6, s7, s8, s9, s10, s11, s12, s13, s14⟩ := hSw; go_simp <;> with_reducible rfl
      simp only [Act.put, List.getElem_toArray, List.getElem_cons_zero, List.getElem_cons_succ, List.setIfInBounds_toArray, List.set_cons_zero, List.set_cons_succ]
      refine wpAnyH_ready (rs := [10]) (by kernel_rfl) (by simp) ?_
      refine AllReadyH.cons rfl (fun K hK => ?_) AllReadyH.nil
      go_simp
      refine (unhide HM).mono ?_
      rintro e wq ⟨rfl, hb2⟩
      refine hK _ _ (unhide HSS _ ((Below.refl _ _).drew.trans hb2)) ?_
      clear hK hHeld
      have HB2 : Hid (Below wr.heap.size wr _) := (Below.refl _ _).drew.trans hb2
      clear hb2 HM
      intro hHeld
      by_cases hxy : kd = md
      · have hd : decide (kd = md) = true := by simpa using hxy
        rw [hd]
        refine wpAnyH_take (i := 11) (v := .bool false) rfl (by kernel_rfl) (by kernel_rfl) (by kernel_rfl) (fun _ _ _ h => h) (Or.inl ⟨by rfl, ?hy11x11⟩) (by assumption) ?rest11x11
        case hy11x11 => intro w hSw; obtain ⟨s1, s2, s3, s4, s5, s6, s7, s8, s9, s10, s11, s12, s13, s14⟩ := hSw; go_simp <;> with_reducible rfl
        simp only [Act.put, List.getElem_toArray, List.getElem_cons_zero, List.getElem_cons_succ, List.setIfInBounds_toArray, List.set_cons_zero, List.set_cons_succ]
        refine wpAnyH_done (by kernel_rfl) ?_ _
        go_wp2
        go_roundw
        case rel =>
          have hall : ∀ u, u < t + 1 → ttxns.getD u dT = utxns.getD u dT := fun u hu => by
            by_cases hut : u < t
            · exact unhide HE u hut
            · obtain rfl : u = t := by omega
              rw [unhide kE, unhide mE, hxy]
          exact ⟨t + 1, by omega, by go_num, hall, (unhide HW).trans ((unhide HB2).mono (by have := (unhide HW).size; simp at this; omega))⟩
        case measure => simp [intOf]; omega
      · have hd : decide (kd = md) = false := by simpa using hxy
        rw [hd]
        refine wpAnyH_take (i := 11) (v := .bool true) rfl (by kernel_rfl) (by kernel_rfl) (by kernel_rfl) (fun _ _ _ h => h) (Or.inl ⟨by rfl, ?hy12x11⟩) (by assumption) ?rest12x11
        case hy12x11 => intro w hSw; obtain ⟨s1, s2, s3, s4, s5, s6, s7, s8, s9, s10, s11, s12, s13, s14⟩ := hSw; go_simp <;> with_reducible rfl
        simp only [Act.put, List.getElem_toArray, List.getElem_cons_zero, List.getElem_cons_succ, List.setIfInBounds_toArray, List.set_cons_zero, List.set_cons_succ]
        refine wpAnyH_done (by kernel_rfl) ?_ _
        go_wp2
        go_ret
        refine ⟨retBool ?_, (unhide HBW).trans ((unhide HB2).mono (unhide HBW).size)⟩
        have : ¬ ttxns = utxns := list_differ (d := dT) (t := t) (by rw [unhide kE, unhide mE]; exact hxy)
        simp [this]
    · clear hb heq hbw
      go_wp2
      go_ret
      refine ⟨retBool ?_, unhide HBW⟩
      have : ttxns = utxns := list_alike (d := dT) (unhide HL) (fun u hu => unhide HE u (by omega))
      simp [this]

end Go.Proofs.Ytoddemcmmijoaaa

/- Record: messages, what memory shows of them; which termed entries and parts are the same. -/
namespace Go.Proofs.Ytoddemcmmijoaaa
open Go.RowKit
set_option maxRecDepth 100000

/-- A termed entry, a part, a message, in plain terms. -/
structure TmD where
  term : Int
  ent : EntD
deriving DecidableEq
structure PtD where
  slot : Int
  idx : Int
  many : Int
  data : List Int
deriving DecidableEq
structure MsgD where
  kind : Int
  frm : Int
  to : Int
  term : Int
  slot : Int
  last : Int
  commit : Int
  yes : Bool
  list : List TmD
  ent : EntD
  part : PtD
deriving DecidableEq
def dM : TmD := ⟨0, dE⟩
instance : Inhabited TmD := ⟨dM⟩
def SeesTm (w : World) (cs : Array Value) (x : TmD) : Prop := ∃ tv, cs = #[.int .i64 x.term, .int .i64 x.ent.kind, .int .i64 x.ent.frm, .int .i64 x.ent.num, tv] ∧ SeesTs w tv x.ent.txns
theorem SeesTm.below {w w' : World} {cs : Array Value} {x : TmD} (h : SeesTm w cs x) (hb : Below w.heap.size w w') : SeesTm w' cs x := by
  obtain ⟨tv, h0, h1⟩ := h
  exact ⟨tv, h0, h1.below hb⟩
def SeesP (w : World) (cs : Array Value) (p : PtD) : Prop := ∃ dv, cs = #[.int .i64 p.slot, .int .i64 p.idx, .int .i64 p.many, dv] ∧ Sees w .u8 dv p.data
theorem SeesP.below {w w' : World} {cs : Array Value} {p : PtD} (h : SeesP w cs p) (hb : Below w.heap.size w w') : SeesP w' cs p := by
  obtain ⟨dv, h0, h1⟩ := h
  exact ⟨dv, h0, h1.below hb⟩
def OkTms (l : List TmD) : Prop := ∀ x ∈ l, OkTs x.ent.txns
theorem OkTms.at {l : List TmD} (h : OkTms l) {t : Nat} (ht : t < l.length) : OkTs (l.getD t dM).ent.txns := by
  have : l.getD t dM = l[t] := by simp [List.getD, ht]
  rw [this]
  exact h _ (List.getElem_mem ht)
/-- A termed entry in memory, from a cell on. -/
def TmAt (w : World) (gb o : Nat) (x : TmD) : Prop :=
  ∃ tv, w.cell? ⟨gb, o, none⟩ = some (.int .i64 x.term) ∧ w.cell? ⟨gb, o + 1, none⟩ = some (.int .i64 x.ent.kind) ∧ w.cell? ⟨gb, o + 2, none⟩ = some (.int .i64 x.ent.frm) ∧ w.cell? ⟨gb, o + 3, none⟩ = some (.int .i64 x.ent.num) ∧ w.cell? ⟨gb, o + 4, none⟩ = some tv ∧ SeesTs w tv x.ent.txns
theorem TmAt.below {w w' : World} {gb o : Nat} {x : TmD} (h : TmAt w gb o x) (hb : Below w.heap.size w w') : TmAt w' gb o x := by
  obtain ⟨tv, h0, h1, h2, h3, h4, hs⟩ := h
  have c : ∀ o u, w.cell? ⟨gb, o, none⟩ = some u → w'.cell? ⟨gb, o, none⟩ = some u := fun o u h => (hb.cell (p := ⟨gb, o, none⟩) (World.block_lt_of_cell? w _ h)).trans h
  exact ⟨tv, c _ _ h0, c _ _ h1, c _ _ h2, c _ _ h3, c _ _ h4, hs.below hb⟩
def SeesTms (w : World) (v : Value) (l : List TmD) : Prop :=
  ∃ ao cap gb ob, v = .slice ao l.length cap ∧ l.length ≤ cap ∧ l.length ≤ 9223372036854775807 ∧ (0 < l.length → ao = some ⟨gb, ob, none⟩) ∧ ∀ t, t < l.length → TmAt w gb (ob + t * 5) (l.getD t dM)
theorem SeesTms.below {w w' : World} {v : Value} {l : List TmD} (h : SeesTms w v l) (hb : Below w.heap.size w w') : SeesTms w' v l := by
  obtain ⟨ao, cap, gb, ob, h1, h2, h3, h4, h5⟩ := h
  exact ⟨ao, cap, gb, ob, h1, h2, h3, h4, fun t ht => (h5 t ht).below hb⟩
theorem SeesTms.nil (w : World) : SeesTms w (.slice none 0 0) [] := ⟨none, 0, 0, 0, rfl, Nat.le_refl _, by simp, fun h => absurd h (by simp), fun t h => absurd h (by simp)⟩
theorem sameTm_eq (t u : TmD) : decide (t = u) = (decide (t.term = u.term) && decide (t.ent = u.ent)) := by
  obtain ⟨a, b⟩ := t
  obtain ⟨a', b'⟩ := u
  simp [TmD.mk.injEq]
theorem samePt_eq (t u : PtD) : decide (t = u) = (decide (t.slot = u.slot) && decide (t.idx = u.idx) && decide (t.many = u.many) && decide (t.data = u.data)) := by
  obtain ⟨a, b, c, d⟩ := t
  obtain ⟨a', b', c', d'⟩ := u
  simp [PtD.mk.injEq, Bool.and_assoc]

set_option maxHeartbeats 1600000 in
theorem sameTermed_any (cs ds : Array Value) (t u : TmD) (w : World) (ht : SeesTm w cs t) (hu : SeesTm w ds u) (ot : OkTs t.ent.txns) (ou : OkTs u.ent.txns) :
    Calls Try.prog 52 #[.agg cs, .agg ds] w fun e w' => e = .returned (.bool (decide (t = u))) ∧ Below w.heap.size w w' := by
  rw [sameTm_eq]
  obtain ⟨tt, tk, tf, tn, ttxns⟩ := t
  obtain ⟨ut, uk, uf, un, utxns⟩ := u
  obtain ⟨_, rfl, ht⟩ := ht
  obtain ⟨_, rfl, hu⟩ := hu
  simp only at ht hu ot ou ⊢
  have HT := hide ht
  have HU := hide hu
  obtain ⟨ta, tc, _, _, rfl, htc, htm, _⟩ := ht
  obtain ⟨ua, uc, _, _, rfl, huc, hum, _⟩ := hu
  have HB : Hid (Below w.heap.size w ((w.alloc (.cells #[.int .i64 tt, .int .i64 tk, .int .i64 tf, .int .i64 tn, .slice ta ttxns.length tc] 71)).alloc (.cells #[.int .i64 ut, .int .i64 uk, .int .i64 uf, .int .i64 un, .slice ua utxns.length uc] 71))) := ((Below.refl _ _).alloc (Nat.le_refl _) _).alloc (by simp) _
  have HQ := hide (sameEntry_any _ _ ⟨tk, tf, tn, ttxns⟩ ⟨uk, uf, un, utxns⟩ ((w.alloc (.cells #[.int .i64 tt, .int .i64 tk, .int .i64 tf, .int .i64 tn, .slice ta ttxns.length tc] 71)).alloc (.cells #[.int .i64 ut, .int .i64 uk, .int .i64 uf, .int .i64 un, .slice ua utxns.length uc] 71)) ⟨_, rfl, (unhide HT).below (unhide HB)⟩ ⟨_, rfl, (unhide HU).below (unhide HB)⟩ ot ou)
  clear ot ou
  by_cases h1 : tt = ut
  case neg =>
    go_enter Try.func52, Try.ntmps52
    go_wp2_with fail
    go_ret
    exact ⟨retBool (by simp), unhide HB⟩
  subst h1
  obtain ⟨D, hD⟩ : ∃ D, decide ((⟨tk, tf, tn, ttxns⟩ : EntD) = ⟨uk, uf, un, utxns⟩) = D := ⟨_, rfl⟩
  rw [hD] at HQ ⊢
  clear hD
  go_enter Try.func52, Try.ntmps52
  go_wp2_with fail
  refine (unhide HQ).mono ?_
  rintro e w2 ⟨rfl, hb2⟩
  have HB2 : Hid (Below w.heap.size w w2) := (unhide HB).trans (hb2.mono (unhide HB).size)
  clear hb2
  go_wp2_with fail
  go_ret
  exact ⟨retBool (by simp), unhide HB2⟩

set_option maxHeartbeats 1600000 in
theorem refSameTermed_any (cs ds : Array Value) (t u : TmD) (w : World) (ht : SeesTm w cs t) (hu : SeesTm w ds u) (ot : OkTs t.ent.txns) (ou : OkTs u.ent.txns) :
    Calls Try.prog 34 #[.agg cs, .agg ds] w fun e w' => e = .returned (.bool (decide (t = u))) ∧ Below w.heap.size w w' := by
  rw [sameTm_eq]
  obtain ⟨tt, tk, tf, tn, ttxns⟩ := t
  obtain ⟨ut, uk, uf, un, utxns⟩ := u
  obtain ⟨_, rfl, ht⟩ := ht
  obtain ⟨_, rfl, hu⟩ := hu
  simp only at ht hu ot ou ⊢
  have HT := hide ht
  have HU := hide hu
  obtain ⟨ta, tc, _, _, rfl, htc, htm, _⟩ := ht
  obtain ⟨ua, uc, _, _, rfl, huc, hum, _⟩ := hu
  have HB : Hid (Below w.heap.size w ((w.alloc (.cells #[.int .i64 tt, .int .i64 tk, .int .i64 tf, .int .i64 tn, .slice ta ttxns.length tc] 71)).alloc (.cells #[.int .i64 ut, .int .i64 uk, .int .i64 uf, .int .i64 un, .slice ua utxns.length uc] 71))) := ((Below.refl _ _).alloc (Nat.le_refl _) _).alloc (by simp) _
  have HQ := hide (refSameEntry_any _ _ ⟨tk, tf, tn, ttxns⟩ ⟨uk, uf, un, utxns⟩ ((w.alloc (.cells #[.int .i64 tt, .int .i64 tk, .int .i64 tf, .int .i64 tn, .slice ta ttxns.length tc] 71)).alloc (.cells #[.int .i64 ut, .int .i64 uk, .int .i64 uf, .int .i64 un, .slice ua utxns.length uc] 71)) ⟨_, rfl, (unhide HT).below (unhide HB)⟩ ⟨_, rfl, (unhide HU).below (unhide HB)⟩ ot ou)
  clear ot ou
  by_cases h1 : tt = ut
  case neg =>
    go_enter Try.func34, Try.ntmps34
    go_wp2_with fail
    go_ret
    exact ⟨retBool (by simp), unhide HB⟩
  subst h1
  obtain ⟨D, hD⟩ : ∃ D, decide ((⟨tk, tf, tn, ttxns⟩ : EntD) = ⟨uk, uf, un, utxns⟩) = D := ⟨_, rfl⟩
  rw [hD] at HQ ⊢
  clear hD
  go_enter Try.func34, Try.ntmps34
  go_wp2_with fail
  refine (unhide HQ).mono ?_
  rintro e w2 ⟨rfl, hb2⟩
  have HB2 : Hid (Below w.heap.size w w2) := (unhide HB).trans (hb2.mono (unhide HB).size)
  clear hb2
  go_wp2_with fail
  go_ret
  exact ⟨retBool (by simp), unhide HB2⟩

set_option maxHeartbeats 1600000 in
theorem samePart_any (cs ds : Array Value) (t u : PtD) (w : World) (ht : SeesP w cs t) (hu : SeesP w ds u) (ot : Byt t.data) (ou : Byt u.data) :
    Calls Try.prog 54 #[.agg cs, .agg ds] w fun e w' => e = .returned (.bool (decide (t = u))) ∧ Below w.heap.size w w' := by
  rw [samePt_eq]
  obtain ⟨ts, ti, tm, tdata⟩ := t
  obtain ⟨us, ui, um, udata⟩ := u
  obtain ⟨_, rfl, ht⟩ := ht
  obtain ⟨_, rfl, hu⟩ := hu
  simp only at ht hu ot ou ⊢
  have HT := hide ht
  have HU := hide hu
  obtain ⟨ta, tc, rfl, _⟩ := ht
  obtain ⟨ua, uc, rfl, _⟩ := hu
  have HB : Hid (Below w.heap.size w ((w.alloc (.cells #[.int .i64 ts, .int .i64 ti, .int .i64 tm, .slice ta tdata.length tc] 36)).alloc (.cells #[.int .i64 us, .int .i64 ui, .int .i64 um, .slice ua udata.length uc] 36))) := ((Below.refl _ _).alloc (Nat.le_refl _) _).alloc (by simp) _
  have HQ := hide (equal_any _ _ tdata udata ((w.alloc (.cells #[.int .i64 ts, .int .i64 ti, .int .i64 tm, .slice ta tdata.length tc] 36)).alloc (.cells #[.int .i64 us, .int .i64 ui, .int .i64 um, .slice ua udata.length uc] 36)) ((unhide HT).below (unhide HB)) ((unhide HU).below (unhide HB)) ot ou)
  by_cases h0 : ts = us
  case neg =>
    go_enter Try.func54, Try.ntmps54
    go_wp2_with fail
    go_ret
    exact ⟨retBool (by simp [h0]), unhide HB⟩
  subst h0
  by_cases h1 : ti = ui
  case neg =>
    go_enter Try.func54, Try.ntmps54
    go_wp2_with fail
    go_ret
    exact ⟨retBool (by simp [h1]), unhide HB⟩
  subst h1
  by_cases h2 : tm = um
  case neg =>
    go_enter Try.func54, Try.ntmps54
    go_wp2_with fail
    go_ret
    exact ⟨retBool (by simp [h2]), unhide HB⟩
  subst h2
  obtain ⟨D, hD⟩ : ∃ D, decide (tdata = udata) = D := ⟨_, rfl⟩
  rw [hD] at HQ ⊢
  clear hD
  go_enter Try.func54, Try.ntmps54
  go_wp2_with fail
  refine (unhide HQ).mono ?_
  rintro e w2 ⟨rfl, rfl⟩
  go_wp2_with fail
  go_ret
  exact ⟨retBool (by simp), unhide HB⟩

set_option maxHeartbeats 1600000 in
theorem refSamePart_any (cs ds : Array Value) (t u : PtD) (w : World) (ht : SeesP w cs t) (hu : SeesP w ds u) (ot : Byt t.data) (ou : Byt u.data) :
    Calls Try.prog 24 #[.agg cs, .agg ds] w fun e w' => e = .returned (.bool (decide (t = u))) ∧ Below w.heap.size w w' := by
  rw [samePt_eq]
  obtain ⟨ts, ti, tm, tdata⟩ := t
  obtain ⟨us, ui, um, udata⟩ := u
  obtain ⟨_, rfl, ht⟩ := ht
  obtain ⟨_, rfl, hu⟩ := hu
  simp only at ht hu ot ou ⊢
  have HT := hide ht
  have HU := hide hu
  obtain ⟨ta, tc, rfl, _⟩ := ht
  obtain ⟨ua, uc, rfl, _⟩ := hu
  have HB : Hid (Below w.heap.size w ((w.alloc (.cells #[.int .i64 ts, .int .i64 ti, .int .i64 tm, .slice ta tdata.length tc] 36)).alloc (.cells #[.int .i64 us, .int .i64 ui, .int .i64 um, .slice ua udata.length uc] 36))) := ((Below.refl _ _).alloc (Nat.le_refl _) _).alloc (by simp) _
  have hcv1 := run_conv_sees (P := Try.prog) ((w.alloc (.cells #[.int .i64 ts, .int .i64 ti, .int .i64 tm, .slice ta tdata.length tc] 36)).alloc (.cells #[.int .i64 us, .int .i64 ui, .int .i64 um, .slice ua udata.length uc] 36)) 34 9 5 _ tdata Try.underlying34 Try.underlying5 Try.underlying9 ((unhide HT).below (unhide HB)) ot
  have hcv2 := run_conv_sees (P := Try.prog) ((w.alloc (.cells #[.int .i64 ts, .int .i64 ti, .int .i64 tm, .slice ta tdata.length tc] 36)).alloc (.cells #[.int .i64 us, .int .i64 ui, .int .i64 um, .slice ua udata.length uc] 36)) 34 9 5 _ udata Try.underlying34 Try.underlying5 Try.underlying9 ((unhide HU).below (unhide HB)) ou
  have hsb := str_beq ot ou
  by_cases h0 : ts = us
  case neg =>
    go_enter Try.func24, Try.ntmps24
    go_wp2_with fail
    go_ret
    exact ⟨retBool (by simp [h0]), unhide HB⟩
  subst h0
  by_cases h1 : ti = ui
  case neg =>
    go_enter Try.func24, Try.ntmps24
    go_wp2_with fail
    go_ret
    exact ⟨retBool (by simp [h1]), unhide HB⟩
  subst h1
  by_cases h2 : tm = um
  case neg =>
    go_enter Try.func24, Try.ntmps24
    go_wp2_with fail
    go_ret
    exact ⟨retBool (by simp [h2]), unhide HB⟩
  subst h2
  obtain ⟨D, hD⟩ : ∃ D, decide (tdata = udata) = D := ⟨_, rfl⟩
  rw [hD] at hsb ⊢
  clear hD
  go_enter Try.func24, Try.ntmps24
  go_wp2_with fail
  go_ret
  exact ⟨retBool (by simp), unhide HB⟩

set_option maxHeartbeats 3200000 in
theorem equalFuncM_any (av bv : Value) (xs ys : List TmD) (w : World) (ha : SeesTms w av xs) (hb : SeesTms w bv ys) (hx : OkTms xs) (hy : OkTms ys) :
    Calls Try.prog 51 #[av, bv, .func (.func 52) #[] #[]] w fun e w' => e = .returned (.bool (decide (xs = ys))) ∧ Below w.heap.size w w' := by
  have HA : Hid (∀ w', Below w.heap.size w w' → SeesTms w' av xs) := fun w' h => ha.below h
  have HB : Hid (∀ w', Below w.heap.size w w' → SeesTms w' bv ys) := fun w' h => hb.below h
  have HX := hide hx
  have HY := hide hy
  obtain ⟨ao, ca, _, _, rfl, hca, hma, _⟩ := ha
  obtain ⟨bo, cb, _, _, rfl, hcb, _⟩ := hb
  clear hx hy
  by_cases hl : xs.length = ys.length
  · rw [← hl] at hcb ⊢
    have HL := hide hl
    rw [← hl] at HB
    clear hl
    go_enter Try.func51, Try.ntmps51
    go_wp2
    go_loopw [17] (fun c wr => ∃ t : Nat, t ≤ xs.length ∧ c = .int .i64 t ∧ (∀ u, u < t → xs.getD u dM = ys.getD u dM) ∧ Below w.heap.size w wr) (fun c _ => xs.length - (intOf c).toNat)
    case atStart => exact ⟨0, by omega, rfl, fun u hu => absurd hu (by omega), Below.refl _ _⟩
    case round =>
      obtain ⟨t, ht, rfl, heq, hb⟩ := hrel
      have HE := hide heq
      have HW := hide hb
      by_cases hlt : t < xs.length
      · obtain ⟨ao', ca', ga, oa, hv, _, _, ha', h1⟩ := unhide HA wr hb
        obtain ⟨bo', cb', gb, ob, hv', _, _, hb', h2⟩ := unhide HB wr hb
        simp only [Value.slice.injEq, true_and] at hv hv'
        obtain ⟨rfl, rfl⟩ := hv
        obtain ⟨rfl, hjunk, rfl⟩ := hv'
        clear hjunk
        obtain rfl := ha' (by omega)
        obtain rfl := hb' (by have := unhide HL; omega)
        have hlt2 : t < ys.length := by have := unhide HL; omega
        obtain ⟨ktv, kh0, kh1, kh2, kh3, kh4, khs⟩ := h1 t hlt
        obtain ⟨kd, ke⟩ : ∃ d, xs.getD t dM = d := ⟨_, rfl⟩
        rw [ke] at kh0 kh1 kh2 kh3 khs
        have kS : SeesTm wr #[.int .i64 kd.term, .int .i64 kd.ent.kind, .int .i64 kd.ent.frm, .int .i64 kd.ent.num, ktv] kd := ⟨_, rfl, khs⟩
        obtain ⟨ka, kc, _, _, rfl, _⟩ := khs
        obtain ⟨kt, ket⟩ : ∃ n, kd.term = n := ⟨_, rfl⟩
        obtain ⟨kk, kek⟩ : ∃ n, kd.ent.kind = n := ⟨_, rfl⟩
        obtain ⟨kf, kef⟩ : ∃ n, kd.ent.frm = n := ⟨_, rfl⟩
        obtain ⟨kn, ken⟩ : ∃ n, kd.ent.num = n := ⟨_, rfl⟩
        obtain ⟨kl, kel⟩ : ∃ n, kd.ent.txns.length = n := ⟨_, rfl⟩
        rw [ket, kek, kef, ken, kel] at kS
        rw [ket] at kh0
        rw [kek] at kh1
        rw [kef] at kh2
        rw [ken] at kh3
        rw [kel] at kh4
        have kE := hide ke
        have kHS := hide kS
        clear ke kS ket kek kef ken kel
        have hal1 : Below wr.heap.size wr (wr.alloc (.cells #[.int .i64 kt, .int .i64 kk, .int .i64 kf, .int .i64 kn, .slice ka kl kc] 71)) := (Below.refl _ _).alloc (Nat.le_refl _) _
        obtain ⟨mtv, mh0, mh1, mh2, mh3, mh4, mhs⟩ := (h2 t hlt2).below hal1
        obtain ⟨md, me⟩ : ∃ d, ys.getD t dM = d := ⟨_, rfl⟩
        rw [me] at mh0 mh1 mh2 mh3 mhs
        have mS : SeesTm (wr.alloc (.cells #[.int .i64 kt, .int .i64 kk, .int .i64 kf, .int .i64 kn, .slice ka kl kc] 71)) #[.int .i64 md.term, .int .i64 md.ent.kind, .int .i64 md.ent.frm, .int .i64 md.ent.num, mtv] md := ⟨_, rfl, mhs⟩
        obtain ⟨ma, mc, _, _, rfl, _⟩ := mhs
        obtain ⟨mt, met⟩ : ∃ n, md.term = n := ⟨_, rfl⟩
        obtain ⟨mk, mek⟩ : ∃ n, md.ent.kind = n := ⟨_, rfl⟩
        obtain ⟨mf, mef⟩ : ∃ n, md.ent.frm = n := ⟨_, rfl⟩
        obtain ⟨mn, men⟩ : ∃ n, md.ent.num = n := ⟨_, rfl⟩
        obtain ⟨ml, mel⟩ : ∃ n, md.ent.txns.length = n := ⟨_, rfl⟩
        rw [met, mek, mef, men, mel] at mS
        rw [met] at mh0
        rw [mek] at mh1
        rw [mef] at mh2
        rw [men] at mh3
        rw [mel] at mh4
        have mE := hide me
        have mHS := hide mS
        clear me mS met mek mef men mel
        have hal2 : Below (wr.alloc (.cells #[.int .i64 kt, .int .i64 kk, .int .i64 kf, .int .i64 kn, .slice ka kl kc] 71)).heap.size (wr.alloc (.cells #[.int .i64 kt, .int .i64 kk, .int .i64 kf, .int .i64 kn, .slice ka kl kc] 71)) ((wr.alloc (.cells #[.int .i64 kt, .int .i64 kk, .int .i64 kf, .int .i64 kn, .slice ka kl kc] 71)).alloc (.cells #[.int .i64 mt, .int .i64 mk, .int .i64 mf, .int .i64 mn, .slice ma ml mc] 71)) := (Below.refl _ _).alloc (Nat.le_refl _) _
        have hal : Below wr.heap.size wr ((wr.alloc (.cells #[.int .i64 kt, .int .i64 kk, .int .i64 kf, .int .i64 kn, .slice ka kl kc] 71)).alloc (.cells #[.int .i64 mt, .int .i64 mk, .int .i64 mf, .int .i64 mn, .slice ma ml mc] 71)) := ((Below.refl _ _).alloc (Nat.le_refl _) _).alloc (by simp) _
        have hok := (unhide HX).at hlt
        have hoy := (unhide HY).at hlt2
        rw [unhide kE] at hok
        rw [unhide mE] at hoy
        have HM := hide (sameTermed_any _ _ kd md _ ((unhide kHS).below hal) ((unhide mHS).below hal2) hok hoy)
        have HB1 : Hid (Below w.heap.size w ((wr.alloc (.cells #[.int .i64 kt, .int .i64 kk, .int .i64 kf, .int .i64 kn, .slice ka kl kc] 71)).alloc (.cells #[.int .i64 mt, .int .i64 mk, .int .i64 mf, .int .i64 mn, .slice ma ml mc] 71))) := hb.trans (hal.mono hb.size)
        clear h1 h2 ha' hb' heq hb hal hal1 hal2 hok hoy
        go_wp2_with fail
        refine (unhide HM).mono ?_
        rintro e w2 ⟨rfl, hb2⟩
        have HB2 : Hid (Below w.heap.size w w2) := (unhide HB1).trans (hb2.mono (unhide HB1).size)
        clear hb2 HM
        by_cases hxy : kd = md
        · have hd : decide (kd = md) = true := by simpa using hxy
          rw [hd]
          go_wp2
          go_roundw
          case rel =>
            have hall : ∀ u, u < t + 1 → xs.getD u dM = ys.getD u dM := fun u hu => by
              by_cases hut : u < t
              · exact unhide HE u hut
              · obtain rfl : u = t := by omega
                rw [unhide kE, unhide mE, hxy]
            first | exact ⟨t + 1, by omega, by go_num, hall, unhide HB2⟩ | ((repeat apply Exists.intro); exact ⟨⟨t + 1, by omega, by go_num, hall, unhide HB2⟩, rfl⟩)
          case measure => simp [intOf]; omega
        · have hd : decide (kd = md) = false := by simpa using hxy
          rw [hd]
          go_wp2
          go_ret
          refine ⟨retBool ?_, unhide HB2⟩
          rw [eq_comm, decide_eq_false_iff_not]
          exact list_differ (d := dM) (t := t) (by rw [unhide kE, unhide mE]; exact hxy)
      · clear hb heq
        go_wp2
        go_ret
        refine ⟨retBool ?_, unhide HW⟩
        rw [eq_comm, decide_eq_true_iff]
        exact list_alike (d := dM) (unhide HL) (fun u hu => unhide HE u (by omega))
  · have hd : decide (xs = ys) = false := by rw [decide_eq_false_iff_not]; exact fun e => hl (by rw [e])
    rw [hd]
    go_enter Try.func51, Try.ntmps51
    go_wp2
    go_ret
    exact ⟨rfl, Below.refl _ _⟩
end Go.Proofs.Ytoddemcmmijoaaa
