/- Several texts as one. -/
import Derived.Test.YtggllgimlfchhaaGreatXH
import Derived.Deep.RegionHeld3

/- Record: messages, what memory shows of them; which termed entries and parts are the same. -/
namespace Go.Proofs.YtggllgimlfchhaaGreat
open Go.RowKit
set_option maxRecDepth 100000

/-- A termed entry, a part, a message, in plain terms. -/
structure TmD where
  term : Int
  ent : EntD
deriving DecidableEq
structure PtD where
  slot : Int
  idx : Int
  many : Int
  data : List Int
deriving DecidableEq
structure MsgD where
  kind : Int
  frm : Int
  to : Int
  term : Int
  slot : Int
  last : Int
  commit : Int
  yes : Bool
  list : List TmD
  ent : EntD
  part : PtD
deriving DecidableEq
def dM : TmD := ⟨0, dE⟩
instance : Inhabited TmD := ⟨dM⟩
def SeesTm (w : World) (cs : Array Value) (x : TmD) : Prop := ∃ tv, cs = #[.int .i64 x.term, .int .i64 x.ent.kind, .int .i64 x.ent.frm, .int .i64 x.ent.num, tv] ∧ SeesTs w tv x.ent.txns
theorem SeesTm.below {w w' : World} {cs : Array Value} {x : TmD} (h : SeesTm w cs x) (hb : Below w.heap.size w w') : SeesTm w' cs x := by
  obtain ⟨tv, h0, h1⟩ := h
  exact ⟨tv, h0, h1.below hb⟩
def SeesP (w : World) (cs : Array Value) (p : PtD) : Prop := ∃ dv, cs = #[.int .i64 p.slot, .int .i64 p.idx, .int .i64 p.many, dv] ∧ Sees w .u8 dv p.data
theorem SeesP.below {w w' : World} {cs : Array Value} {p : PtD} (h : SeesP w cs p) (hb : Below w.heap.size w w') : SeesP w' cs p := by
  obtain ⟨dv, h0, h1⟩ := h
  exact ⟨dv, h0, h1.below hb⟩
def OkTms (l : List TmD) : Prop := ∀ x ∈ l, OkTs x.ent.txns
theorem OkTms.at {l : List TmD} (h : OkTms l) {t : Nat} (ht : t < l.length) : OkTs (l.getD t dM).ent.txns := by
  have : l.getD t dM = l[t] := by simp [List.getD, ht]
  rw [this]
  exact h _ (List.getElem_mem ht)
/-- A termed entry in memory, from a cell on. -/
def TmAt (w : World) (gb o : Nat) (x : TmD) : Prop :=
  ∃ tv, w.cell? ⟨gb, o, none⟩ = some (.int .i64 x.term) ∧ w.cell? ⟨gb, o + 1, none⟩ = some (.int .i64 x.ent.kind) ∧ w.cell? ⟨gb, o + 2, none⟩ = some (.int .i64 x.ent.frm) ∧ w.cell? ⟨gb, o + 3, none⟩ = some (.int .i64 x.ent.num) ∧ w.cell? ⟨gb, o + 4, none⟩ = some tv ∧ SeesTs w tv x.ent.txns
theorem TmAt.below {w w' : World} {gb o : Nat} {x : TmD} (h : TmAt w gb o x) (hb : Below w.heap.size w w') : TmAt w' gb o x := by
  obtain ⟨tv, h0, h1, h2, h3, h4, hs⟩ := h
  have c : ∀ o u, w.cell? ⟨gb, o, none⟩ = some u → w'.cell? ⟨gb, o, none⟩ = some u := fun o u h => (hb.cell (p := ⟨gb, o, none⟩) (World.block_lt_of_cell? w _ h)).trans h
  exact ⟨tv, c _ _ h0, c _ _ h1, c _ _ h2, c _ _ h3, c _ _ h4, hs.below hb⟩
def SeesTms (w : World) (v : Value) (l : List TmD) : Prop :=
  ∃ ao cap gb ob, v = .slice ao l.length cap ∧ l.length ≤ cap ∧ l.length ≤ 9223372036854775807 ∧ (0 < l.length → ao = some ⟨gb, ob, none⟩) ∧ ∀ t, t < l.length → TmAt w gb (ob + t * 5) (l.getD t dM)
theorem SeesTms.below {w w' : World} {v : Value} {l : List TmD} (h : SeesTms w v l) (hb : Below w.heap.size w w') : SeesTms w' v l := by
  obtain ⟨ao, cap, gb, ob, h1, h2, h3, h4, h5⟩ := h
  exact ⟨ao, cap, gb, ob, h1, h2, h3, h4, fun t ht => (h5 t ht).below hb⟩
theorem SeesTms.nil (w : World) : SeesTms w (.slice none 0 0) [] := ⟨none, 0, 0, 0, rfl, Nat.le_refl _, by simp, fun h => absurd h (by simp), fun t h => absurd h (by simp)⟩
theorem sameTm_eq (t u : TmD) : decide (t = u) = (decide (t.term = u.term) && decide (t.ent = u.ent)) := by
  obtain ⟨a, b⟩ := t
  obtain ⟨a', b'⟩ := u
  simp [TmD.mk.injEq]
theorem samePt_eq (t u : PtD) : decide (t = u) = (decide (t.slot = u.slot) && decide (t.idx = u.idx) && decide (t.many = u.many) && decide (t.data = u.data)) := by
  obtain ⟨a, b, c, d⟩ := t
  obtain ⟨a', b', c', d'⟩ := u
  simp [PtD.mk.injEq, Bool.and_assoc]

set_option maxHeartbeats 1600000 in
theorem sameTermed_any (cs ds : Array Value) (t u : TmD) (w : World) (ht : SeesTm w cs t) (hu : SeesTm w ds u) (ot : OkTs t.ent.txns) (ou : OkTs u.ent.txns) :
    Calls Tryz.prog 116 #[.agg cs, .agg ds] w fun e w' => e = .returned (.bool (decide (t = u))) ∧ Below w.heap.size w w' := by
  rw [sameTm_eq]
  obtain ⟨tt, tk, tf, tn, ttxns⟩ := t
  obtain ⟨ut, uk, uf, un, utxns⟩ := u
  obtain ⟨_, rfl, ht⟩ := ht
  obtain ⟨_, rfl, hu⟩ := hu
  simp only at ht hu ot ou ⊢
  have HT := hide ht
  have HU := hide hu
  obtain ⟨ta, tc, _, _, rfl, htc, htm, _⟩ := ht
  obtain ⟨ua, uc, _, _, rfl, huc, hum, _⟩ := hu
  have HB : Hid (Below w.heap.size w ((w.alloc (.cells #[.int .i64 tt, .int .i64 tk, .int .i64 tf, .int .i64 tn, .slice ta ttxns.length tc] 140)).alloc (.cells #[.int .i64 ut, .int .i64 uk, .int .i64 uf, .int .i64 un, .slice ua utxns.length uc] 140))) := ((Below.refl _ _).alloc (Nat.le_refl _) _).alloc (by simp) _
  have HQ := hide (sameEntry_any _ _ ⟨tk, tf, tn, ttxns⟩ ⟨uk, uf, un, utxns⟩ ((w.alloc (.cells #[.int .i64 tt, .int .i64 tk, .int .i64 tf, .int .i64 tn, .slice ta ttxns.length tc] 140)).alloc (.cells #[.int .i64 ut, .int .i64 uk, .int .i64 uf, .int .i64 un, .slice ua utxns.length uc] 140)) ⟨_, rfl, (unhide HT).below (unhide HB)⟩ ⟨_, rfl, (unhide HU).below (unhide HB)⟩ ot ou)
  clear ot ou
  by_cases h1 : tt = ut
  case neg =>
    go_enter Tryz.func116, Tryz.ntmps116
    go_wp2_with fail
    go_ret
    exact ⟨retBool (by simp), unhide HB⟩
  subst h1
  obtain ⟨D, hD⟩ : ∃ D, decide ((⟨tk, tf, tn, ttxns⟩ : EntD) = ⟨uk, uf, un, utxns⟩) = D := ⟨_, rfl⟩
  rw [hD] at HQ ⊢
  clear hD
  go_enter Tryz.func116, Tryz.ntmps116
  go_wp2_with fail
  refine (unhide HQ).mono ?_
  rintro e w2 ⟨rfl, hb2⟩
  have HB2 : Hid (Below w.heap.size w w2) := (unhide HB).trans (hb2.mono (unhide HB).size)
  clear hb2
  go_wp2_with fail
  go_ret
  exact ⟨retBool (by simp), unhide HB2⟩

set_option maxHeartbeats 1600000 in
theorem refSameTermed_any (cs ds : Array Value) (t u : TmD) (w : World) (ht : SeesTm w cs t) (hu : SeesTm w ds u) (ot : OkTs t.ent.txns) (ou : OkTs u.ent.txns) :
    Calls Tryz.prog 106 #[.agg cs, .agg ds] w fun e w' => e = .returned (.bool (decide (t = u))) ∧ Below w.heap.size w w' := by
  rw [sameTm_eq]
  obtain ⟨tt, tk, tf, tn, ttxns⟩ := t
  obtain ⟨ut, uk, uf, un, utxns⟩ := u
  obtain ⟨_, rfl, ht⟩ := ht
  obtain ⟨_, rfl, hu⟩ := hu
  simp only at ht hu ot ou ⊢
  have HT := hide ht
  have HU := hide hu
  obtain ⟨ta, tc, _, _, rfl, htc, htm, _⟩ := ht
  obtain ⟨ua, uc, _, _, rfl, huc, hum, _⟩ := hu
  have HB : Hid (Below w.heap.size w ((w.alloc (.cells #[.int .i64 tt, .int .i64 tk, .int .i64 tf, .int .i64 tn, .slice ta ttxns.length tc] 140)).alloc (.cells #[.int .i64 ut, .int .i64 uk, .int .i64 uf, .int .i64 un, .slice ua utxns.length uc] 140))) := ((Below.refl _ _).alloc (Nat.le_refl _) _).alloc (by simp) _
  have HQ := hide (refSameEntry_any _ _ ⟨tk, tf, tn, ttxns⟩ ⟨uk, uf, un, utxns⟩ ((w.alloc (.cells #[.int .i64 tt, .int .i64 tk, .int .i64 tf, .int .i64 tn, .slice ta ttxns.length tc] 140)).alloc (.cells #[.int .i64 ut, .int .i64 uk, .int .i64 uf, .int .i64 un, .slice ua utxns.length uc] 140)) ⟨_, rfl, (unhide HT).below (unhide HB)⟩ ⟨_, rfl, (unhide HU).below (unhide HB)⟩ ot ou)
  clear ot ou
  by_cases h1 : tt = ut
  case neg =>
    go_enter Tryz.func106, Tryz.ntmps106
    go_wp2_with fail
    go_ret
    exact ⟨retBool (by simp), unhide HB⟩
  subst h1
  obtain ⟨D, hD⟩ : ∃ D, decide ((⟨tk, tf, tn, ttxns⟩ : EntD) = ⟨uk, uf, un, utxns⟩) = D := ⟨_, rfl⟩
  rw [hD] at HQ ⊢
  clear hD
  go_enter Tryz.func106, Tryz.ntmps106
  go_wp2_with fail
  refine (unhide HQ).mono ?_
  rintro e w2 ⟨rfl, hb2⟩
  have HB2 : Hid (Below w.heap.size w w2) := (unhide HB).trans (hb2.mono (unhide HB).size)
  clear hb2
  go_wp2_with fail
  go_ret
  exact ⟨retBool (by simp), unhide HB2⟩

set_option maxHeartbeats 1600000 in
theorem samePart_any (cs ds : Array Value) (t u : PtD) (w : World) (ht : SeesP w cs t) (hu : SeesP w ds u) (ot : Byt t.data) (ou : Byt u.data) :
    Calls Tryz.prog 117 #[.agg cs, .agg ds] w fun e w' => e = .returned (.bool (decide (t = u))) ∧ Below w.heap.size w w' := by
  rw [samePt_eq]
  obtain ⟨ts, ti, tm, tdata⟩ := t
  obtain ⟨us, ui, um, udata⟩ := u
  obtain ⟨_, rfl, ht⟩ := ht
  obtain ⟨_, rfl, hu⟩ := hu
  simp only at ht hu ot ou ⊢
  have HT := hide ht
  have HU := hide hu
  obtain ⟨ta, tc, rfl, _⟩ := ht
  obtain ⟨ua, uc, rfl, _⟩ := hu
  have HB : Hid (Below w.heap.size w ((w.alloc (.cells #[.int .i64 ts, .int .i64 ti, .int .i64 tm, .slice ta tdata.length tc] 32)).alloc (.cells #[.int .i64 us, .int .i64 ui, .int .i64 um, .slice ua udata.length uc] 32))) := ((Below.refl _ _).alloc (Nat.le_refl _) _).alloc (by simp) _
  have HQ := hide (equal_any _ _ tdata udata ((w.alloc (.cells #[.int .i64 ts, .int .i64 ti, .int .i64 tm, .slice ta tdata.length tc] 32)).alloc (.cells #[.int .i64 us, .int .i64 ui, .int .i64 um, .slice ua udata.length uc] 32)) ((unhide HT).below (unhide HB)) ((unhide HU).below (unhide HB)) ot ou)
  by_cases h0 : ts = us
  case neg =>
    go_enter Tryz.func117, Tryz.ntmps117
    go_wp2_with fail
    go_ret
    exact ⟨retBool (by simp [h0]), unhide HB⟩
  subst h0
  by_cases h1 : ti = ui
  case neg =>
    go_enter Tryz.func117, Tryz.ntmps117
    go_wp2_with fail
    go_ret
    exact ⟨retBool (by simp [h1]), unhide HB⟩
  subst h1
  by_cases h2 : tm = um
  case neg =>
    go_enter Tryz.func117, Tryz.ntmps117
    go_wp2_with fail
    go_ret
    exact ⟨retBool (by simp [h2]), unhide HB⟩
  subst h2
  obtain ⟨D, hD⟩ : ∃ D, decide (tdata = udata) = D := ⟨_, rfl⟩
  rw [hD] at HQ ⊢
  clear hD
  go_enter Tryz.func117, Tryz.ntmps117
  go_wp2_with fail
  refine (unhide HQ).mono ?_
  rintro e w2 ⟨rfl, rfl⟩
  go_wp2_with fail
  go_ret
  exact ⟨retBool (by simp), unhide HB⟩

set_option maxHeartbeats 1600000 in
theorem refSamePart_any (cs ds : Array Value) (t u : PtD) (w : World) (ht : SeesP w cs t) (hu : SeesP w ds u) (ot : Byt t.data) (ou : Byt u.data) :
    Calls Tryz.prog 56 #[.agg cs, .agg ds] w fun e w' => e = .returned (.bool (decide (t = u))) ∧ Below w.heap.size w w' := by
  rw [samePt_eq]
  obtain ⟨ts, ti, tm, tdata⟩ := t
  obtain ⟨us, ui, um, udata⟩ := u
  obtain ⟨_, rfl, ht⟩ := ht
  obtain ⟨_, rfl, hu⟩ := hu
  simp only at ht hu ot ou ⊢
  have HT := hide ht
  have HU := hide hu
  obtain ⟨ta, tc, rfl, _⟩ := ht
  obtain ⟨ua, uc, rfl, _⟩ := hu
  have HB : Hid (Below w.heap.size w ((w.alloc (.cells #[.int .i64 ts, .int .i64 ti, .int .i64 tm, .slice ta tdata.length tc] 32)).alloc (.cells #[.int .i64 us, .int .i64 ui, .int .i64 um, .slice ua udata.length uc] 32))) := ((Below.refl _ _).alloc (Nat.le_refl _) _).alloc (by simp) _
  have hcv1 := run_conv_sees (P := Tryz.prog) ((w.alloc (.cells #[.int .i64 ts, .int .i64 ti, .int .i64 tm, .slice ta tdata.length tc] 32)).alloc (.cells #[.int .i64 us, .int .i64 ui, .int .i64 um, .slice ua udata.length uc] 32)) 23 9 5 _ tdata Tryz.underlying23 Tryz.underlying5 Tryz.underlying9 ((unhide HT).below (unhide HB)) ot
  have hcv2 := run_conv_sees (P := Tryz.prog) ((w.alloc (.cells #[.int .i64 ts, .int .i64 ti, .int .i64 tm, .slice ta tdata.length tc] 32)).alloc (.cells #[.int .i64 us, .int .i64 ui, .int .i64 um, .slice ua udata.length uc] 32)) 23 9 5 _ udata Tryz.underlying23 Tryz.underlying5 Tryz.underlying9 ((unhide HU).below (unhide HB)) ou
  have hsb := str_beq ot ou
  by_cases h0 : ts = us
  case neg =>
    go_enter Tryz.func56, Tryz.ntmps56
    go_wp2_with fail
    go_ret
    exact ⟨retBool (by simp [h0]), unhide HB⟩
  subst h0
  by_cases h1 : ti = ui
  case neg =>
    go_enter Tryz.func56, Tryz.ntmps56
    go_wp2_with fail
    go_ret
    exact ⟨retBool (by simp [h1]), unhide HB⟩
  subst h1
  by_cases h2 : tm = um
  case neg =>
    go_enter Tryz.func56, Tryz.ntmps56
    go_wp2_with fail
    go_ret
    exact ⟨retBool (by simp [h2]), unhide HB⟩
  subst h2
  obtain ⟨D, hD⟩ : ∃ D, decide (tdata = udata) = D := ⟨_, rfl⟩
  rw [hD] at hsb ⊢
  clear hD
  go_enter Tryz.func56, Tryz.ntmps56
  go_wp2_with fail
  go_ret
  exact ⟨retBool (by simp), unhide HB⟩

set_option maxHeartbeats 3200000 in
theorem equalFuncM_any (av bv : Value) (xs ys : List TmD) (w : World) (ha : SeesTms w av xs) (hb : SeesTms w bv ys) (hx : OkTms xs) (hy : OkTms ys) :
    Calls Tryz.prog 115 #[av, bv, .func (.func 116) #[] #[]] w fun e w' => e = .returned (.bool (decide (xs = ys))) ∧ Below w.heap.size w w' := by
  have HA : Hid (∀ w', Below w.heap.size w w' → SeesTms w' av xs) := fun w' h => ha.below h
  have HB : Hid (∀ w', Below w.heap.size w w' → SeesTms w' bv ys) := fun w' h => hb.below h
  have HX := hide hx
  have HY := hide hy
  obtain ⟨ao, ca, _, _, rfl, hca, hma, _⟩ := ha
  obtain ⟨bo, cb, _, _, rfl, hcb, _⟩ := hb
  clear hx hy
  by_cases hl : xs.length = ys.length
  · rw [← hl] at hcb ⊢
    have HL := hide hl
    rw [← hl] at HB
    clear hl
    go_enter Tryz.func115, Tryz.ntmps115
    go_wp2
    go_loopw [17] (fun c wr => ∃ t : Nat, t ≤ xs.length ∧ c = .int .i64 t ∧ (∀ u, u < t → xs.getD u dM = ys.getD u dM) ∧ Below w.heap.size w wr) (fun c _ => xs.length - (intOf c).toNat)
    case atStart => exact ⟨0, by omega, rfl, fun u hu => absurd hu (by omega), Below.refl _ _⟩
    case round =>
      obtain ⟨t, ht, rfl, heq, hb⟩ := hrel
      have HE := hide heq
      have HW := hide hb
      by_cases hlt : t < xs.length
      · obtain ⟨ao', ca', ga, oa, hv, _, _, ha', h1⟩ := unhide HA wr hb
        obtain ⟨bo', cb', gb, ob, hv', _, _, hb', h2⟩ := unhide HB wr hb
        simp only [Value.slice.injEq, true_and] at hv hv'
        obtain ⟨rfl, rfl⟩ := hv
        obtain ⟨rfl, hjunk, rfl⟩ := hv'
        clear hjunk
        obtain rfl := ha' (by omega)
        obtain rfl := hb' (by have := unhide HL; omega)
        have hlt2 : t < ys.length := by have := unhide HL; omega
        obtain ⟨ktv, kh0, kh1, kh2, kh3, kh4, khs⟩ := h1 t hlt
        obtain ⟨kd, ke⟩ : ∃ d, xs.getD t dM = d := ⟨_, rfl⟩
        rw [ke] at kh0 kh1 kh2 kh3 khs
        have kS : SeesTm wr #[.int .i64 kd.term, .int .i64 kd.ent.kind, .int .i64 kd.ent.frm, .int .i64 kd.ent.num, ktv] kd := ⟨_, rfl, khs⟩
        obtain ⟨ka, kc, _, _, rfl, _⟩ := khs
        obtain ⟨kt, ket⟩ : ∃ n, kd.term = n := ⟨_, rfl⟩
        obtain ⟨kk, kek⟩ : ∃ n, kd.ent.kind = n := ⟨_, rfl⟩
        obtain ⟨kf, kef⟩ : ∃ n, kd.ent.frm = n := ⟨_, rfl⟩
        obtain ⟨kn, ken⟩ : ∃ n, kd.ent.num = n := ⟨_, rfl⟩
        obtain ⟨kl, kel⟩ : ∃ n, kd.ent.txns.length = n := ⟨_, rfl⟩
        rw [ket, kek, kef, ken, kel] at kS
        rw [ket] at kh0
        rw [kek] at kh1
        rw [kef] at kh2
        rw [ken] at kh3
        rw [kel] at kh4
        have kE := hide ke
        have kHS := hide kS
        clear ke kS ket kek kef ken kel
        have hal1 : Below wr.heap.size wr (wr.alloc (.cells #[.int .i64 kt, .int .i64 kk, .int .i64 kf, .int .i64 kn, .slice ka kl kc] 140)) := (Below.refl _ _).alloc (Nat.le_refl _) _
        obtain ⟨mtv, mh0, mh1, mh2, mh3, mh4, mhs⟩ := (h2 t hlt2).below hal1
        obtain ⟨md, me⟩ : ∃ d, ys.getD t dM = d := ⟨_, rfl⟩
        rw [me] at mh0 mh1 mh2 mh3 mhs
        have mS : SeesTm (wr.alloc (.cells #[.int .i64 kt, .int .i64 kk, .int .i64 kf, .int .i64 kn, .slice ka kl kc] 140)) #[.int .i64 md.term, .int .i64 md.ent.kind, .int .i64 md.ent.frm, .int .i64 md.ent.num, mtv] md := ⟨_, rfl, mhs⟩
        obtain ⟨ma, mc, _, _, rfl, _⟩ := mhs
        obtain ⟨mt, met⟩ : ∃ n, md.term = n := ⟨_, rfl⟩
        obtain ⟨mk, mek⟩ : ∃ n, md.ent.kind = n := ⟨_, rfl⟩
        obtain ⟨mf, mef⟩ : ∃ n, md.ent.frm = n := ⟨_, rfl⟩
        obtain ⟨mn, men⟩ : ∃ n, md.ent.num = n := ⟨_, rfl⟩
        obtain ⟨ml, mel⟩ : ∃ n, md.ent.txns.length = n := ⟨_, rfl⟩
        rw [met, mek, mef, men, mel] at mS
        rw [met] at mh0
        rw [mek] at mh1
        rw [mef] at mh2
        rw [men] at mh3
        rw [mel] at mh4
        have mE := hide me
        have mHS := hide mS
        clear me mS met mek mef men mel
        have hal2 : Below (wr.alloc (.cells #[.int .i64 kt, .int .i64 kk, .int .i64 kf, .int .i64 kn, .slice ka kl kc] 140)).heap.size (wr.alloc (.cells #[.int .i64 kt, .int .i64 kk, .int .i64 kf, .int .i64 kn, .slice ka kl kc] 140)) ((wr.alloc (.cells #[.int .i64 kt, .int .i64 kk, .int .i64 kf, .int .i64 kn, .slice ka kl kc] 140)).alloc (.cells #[.int .i64 mt, .int .i64 mk, .int .i64 mf, .int .i64 mn, .slice ma ml mc] 140)) := (Below.refl _ _).alloc (Nat.le_refl _) _
        have hal : Below wr.heap.size wr ((wr.alloc (.cells #[.int .i64 kt, .int .i64 kk, .int .i64 kf, .int .i64 kn, .slice ka kl kc] 140)).alloc (.cells #[.int .i64 mt, .int .i64 mk, .int .i64 mf, .int .i64 mn, .slice ma ml mc] 140)) := ((Below.refl _ _).alloc (Nat.le_refl _) _).alloc (by simp) _
        have hok := (unhide HX).at hlt
        have hoy := (unhide HY).at hlt2
        rw [unhide kE] at hok
        rw [unhide mE] at hoy
        have HM := hide (sameTermed_any _ _ kd md _ ((unhide kHS).below hal) ((unhide mHS).below hal2) hok hoy)
        have HB1 : Hid (Below w.heap.size w ((wr.alloc (.cells #[.int .i64 kt, .int .i64 kk, .int .i64 kf, .int .i64 kn, .slice ka kl kc] 140)).alloc (.cells #[.int .i64 mt, .int .i64 mk, .int .i64 mf, .int .i64 mn, .slice ma ml mc] 140))) := hb.trans (hal.mono hb.size)
        clear h1 h2 ha' hb' heq hb hal hal1 hal2 hok hoy
        go_wp2_with fail
        refine (unhide HM).mono ?_
        rintro e w2 ⟨rfl, hb2⟩
        have HB2 : Hid (Below w.heap.size w w2) := (unhide HB1).trans (hb2.mono (unhide HB1).size)
        clear hb2 HM
        by_cases hxy : kd = md
        · have hd : decide (kd = md) = true := by simpa using hxy
          rw [hd]
          go_wp2
          go_roundw
          case rel =>
            have hall : ∀ u, u < t + 1 → xs.getD u dM = ys.getD u dM := fun u hu => by
              by_cases hut : u < t
              · exact unhide HE u hut
              · obtain rfl : u = t := by omega
                rw [unhide kE, unhide mE, hxy]
            first | exact ⟨t + 1, by omega, by go_num, hall, unhide HB2⟩ | ((repeat apply Exists.intro); exact ⟨⟨t + 1, by omega, by go_num, hall, unhide HB2⟩, rfl⟩)
          case measure => simp [intOf]; omega
        · have hd : decide (kd = md) = false := by simpa using hxy
          rw [hd]
          go_wp2
          go_ret
          refine ⟨retBool ?_, unhide HB2⟩
          rw [eq_comm, decide_eq_false_iff_not]
          exact list_differ (d := dM) (t := t) (by rw [unhide kE, unhide mE]; exact hxy)
      · clear hb heq
        go_wp2
        go_ret
        refine ⟨retBool ?_, unhide HW⟩
        rw [eq_comm, decide_eq_true_iff]
        exact list_alike (d := dM) (unhide HL) (fun u hu => unhide HE u (by omega))
  · have hd : decide (xs = ys) = false := by rw [decide_eq_false_iff_not]; exact fun e => hl (by rw [e])
    rw [hd]
    go_enter Tryz.func115, Tryz.ntmps115
    go_wp2
    go_ret
    exact ⟨rfl, Below.refl _ _⟩
end Go.Proofs.YtggllgimlfchhaaGreat

/- Record: which messages are the same. -/
namespace Go.Proofs.YtggllgimlfchhaaGreat
open Go.RowKit
set_option maxRecDepth 100000

/-- A message as memory shows it. -/
def SeesM (w : World) (cs : Array Value) (m : MsgD) : Prop :=
  ∃ lv tv dv, cs = #[.int .i64 m.kind, .int .i64 m.frm, .int .i64 m.to, .int .i64 m.term, .int .i64 m.slot, .int .i64 m.last, .int .i64 m.commit, .bool m.yes, lv, .int .i64 m.ent.kind, .int .i64 m.ent.frm, .int .i64 m.ent.num, tv, .int .i64 m.part.slot, .int .i64 m.part.idx, .int .i64 m.part.many, dv] ∧ SeesTms w lv m.list ∧ SeesTs w tv m.ent.txns ∧ Sees w .u8 dv m.part.data
theorem SeesM.below {w w' : World} {cs : Array Value} {m : MsgD} (h : SeesM w cs m) (hb : Below w.heap.size w w') : SeesM w' cs m := by
  obtain ⟨lv, tv, dv, h0, h1, h2, h3⟩ := h
  exact ⟨lv, tv, dv, h0, h1.below hb, h2.below hb, h3.below hb⟩
structure OkM (m : MsgD) : Prop where
  list : OkTms m.list
  ent : OkTs m.ent.txns
  part : Byt m.part.data
theorem sameM_eq (t u : MsgD) : decide (t = u) = (decide (t.kind = u.kind) && decide (t.frm = u.frm) && decide (t.to = u.to) && decide (t.term = u.term) && decide (t.slot = u.slot) && decide (t.last = u.last) && decide (t.commit = u.commit) && decide (t.yes = u.yes) && decide (t.list = u.list) && decide (t.ent = u.ent) && decide (t.part = u.part)) := by
  obtain ⟨a, b, c, d, e, f, g, h, i, j, k⟩ := t
  obtain ⟨a', b', c', d', e', f', g', h', i', j', k'⟩ := u
  simp [MsgD.mk.injEq, Bool.and_assoc]

set_option maxHeartbeats 3200000 in
theorem refSameList_any (av bv : Value) (xs ys : List TmD) (w : World) (ha : SeesTms w av xs) (hb : SeesTms w bv ys) (hx : OkTms xs) (hy : OkTms ys) :
    Calls Tryz.prog 55 #[av, bv] w fun e w' => e = .returned (.bool (decide (xs = ys))) ∧ Below w.heap.size w w' := by
  have HA : Hid (∀ w', Below w.heap.size w w' → SeesTms w' av xs) := fun w' h => ha.below h
  have HB : Hid (∀ w', Below w.heap.size w w' → SeesTms w' bv ys) := fun w' h => hb.below h
  have HX := hide hx
  have HY := hide hy
  obtain ⟨ao, ca, _, _, rfl, hca, hma, _⟩ := ha
  obtain ⟨bo, cb, _, _, rfl, hcb, _⟩ := hb
  clear hx hy
  by_cases hl : xs.length = ys.length
  · rw [← hl] at hcb ⊢
    have HL := hide hl
    rw [← hl] at HB
    clear hl
    go_enter Tryz.func55, Tryz.ntmps55
    go_wp2
    go_loopw [5] (fun c wr => ∃ t : Nat, t ≤ xs.length ∧ c = .int .i64 t ∧ (∀ u, u < t → xs.getD u dM = ys.getD u dM) ∧ Below w.heap.size w wr) (fun c _ => xs.length - (intOf c).toNat)
    case atStart => exact ⟨0, by omega, rfl, fun u hu => absurd hu (by omega), Below.refl _ _⟩
    case round =>
      obtain ⟨t, ht, rfl, heq, hb⟩ := hrel
      have HE := hide heq
      have HW := hide hb
      by_cases hlt : t < xs.length
      · obtain ⟨ao', ca', ga, oa, hv, _, _, ha', h1⟩ := unhide HA wr hb
        obtain ⟨bo', cb', gb, ob, hv', _, _, hb', h2⟩ := unhide HB wr hb
        simp only [Value.slice.injEq, true_and] at hv hv'
        obtain ⟨rfl, rfl⟩ := hv
        obtain ⟨rfl, hjunk, rfl⟩ := hv'
        clear hjunk
        obtain rfl := ha' (by omega)
        obtain rfl := hb' (by have := unhide HL; omega)
        have hlt2 : t < ys.length := by have := unhide HL; omega
        obtain ⟨ktv, kh0, kh1, kh2, kh3, kh4, khs⟩ := h1 t hlt
        obtain ⟨kd, ke⟩ : ∃ d, xs.getD t dM = d := ⟨_, rfl⟩
        rw [ke] at kh0 kh1 kh2 kh3 khs
        have kS : SeesTm wr #[.int .i64 kd.term, .int .i64 kd.ent.kind, .int .i64 kd.ent.frm, .int .i64 kd.ent.num, ktv] kd := ⟨_, rfl, khs⟩
        obtain ⟨ka, kc, _, _, rfl, _⟩ := khs
        obtain ⟨kt, ket⟩ : ∃ n, kd.term = n := ⟨_, rfl⟩
        obtain ⟨kk, kek⟩ : ∃ n, kd.ent.kind = n := ⟨_, rfl⟩
        obtain ⟨kf, kef⟩ : ∃ n, kd.ent.frm = n := ⟨_, rfl⟩
        obtain ⟨kn, ken⟩ : ∃ n, kd.ent.num = n := ⟨_, rfl⟩
        obtain ⟨kl, kel⟩ : ∃ n, kd.ent.txns.length = n := ⟨_, rfl⟩
        rw [ket, kek, kef, ken, kel] at kS
        rw [ket] at kh0
        rw [kek] at kh1
        rw [kef] at kh2
        rw [ken] at kh3
        rw [kel] at kh4
        have kE := hide ke
        have kHS := hide kS
        clear ke kS ket kek kef ken kel
        obtain ⟨mtv, mh0, mh1, mh2, mh3, mh4, mhs⟩ := h2 t hlt2
        obtain ⟨md, me⟩ : ∃ d, ys.getD t dM = d := ⟨_, rfl⟩
        rw [me] at mh0 mh1 mh2 mh3 mhs
        have mS : SeesTm wr #[.int .i64 md.term, .int .i64 md.ent.kind, .int .i64 md.ent.frm, .int .i64 md.ent.num, mtv] md := ⟨_, rfl, mhs⟩
        obtain ⟨ma, mc, _, _, rfl, _⟩ := mhs
        obtain ⟨mt, met⟩ : ∃ n, md.term = n := ⟨_, rfl⟩
        obtain ⟨mk, mek⟩ : ∃ n, md.ent.kind = n := ⟨_, rfl⟩
        obtain ⟨mf, mef⟩ : ∃ n, md.ent.frm = n := ⟨_, rfl⟩
        obtain ⟨mn, men⟩ : ∃ n, md.ent.num = n := ⟨_, rfl⟩
        obtain ⟨ml, mel⟩ : ∃ n, md.ent.txns.length = n := ⟨_, rfl⟩
        rw [met, mek, mef, men, mel] at mS
        rw [met] at mh0
        rw [mek] at mh1
        rw [mef] at mh2
        rw [men] at mh3
        rw [mel] at mh4
        have mE := hide me
        have mHS := hide mS
        clear me mS met mek mef men mel
        have hok := (unhide HX).at hlt
        have hoy := (unhide HY).at hlt2
        rw [unhide kE] at hok
        rw [unhide mE] at hoy
        have HM := hide (refSameTermed_any _ _ kd md wr.drew ((unhide kHS).below (Below.refl _ _).drew) ((unhide mHS).below (Below.refl _ _).drew) hok hoy)
        have HB1 : Hid (Below w.heap.size w wr.drew) := hb.drew
        clear h1 h2 ha' hb' heq hb hok hoy
        go_wp2_with fail
        have HCX : Hid (∀ x : World, Below wr.heap.size wr.drew x → x.cell? ⟨ga, oa + t * 5, none⟩ = some (.int .i64 kt) ∧ x.cell? ⟨ga, oa + t * 5 + 1, none⟩ = some (.int .i64 kk) ∧ x.cell? ⟨ga, oa + t * 5 + 2, none⟩ = some (.int .i64 kf) ∧ x.cell? ⟨ga, oa + t * 5 + 3, none⟩ = some (.int .i64 kn) ∧ x.cell? ⟨ga, oa + t * 5 + 4, none⟩ = some (.slice ka kl kc) ∧ x.cell? ⟨gb, ob + t * 5, none⟩ = some (.int .i64 mt) ∧ x.cell? ⟨gb, ob + t * 5 + 1, none⟩ = some (.int .i64 mk) ∧ x.cell? ⟨gb, ob + t * 5 + 2, none⟩ = some (.int .i64 mf) ∧ x.cell? ⟨gb, ob + t * 5 + 3, none⟩ = some (.int .i64 mn) ∧ x.cell? ⟨gb, ob + t * 5 + 4, none⟩ = some (.slice ma ml mc)) := fun x hb => ⟨((hb.cell (p := ⟨ga, oa + t * 5, none⟩) (World.block_lt_of_cell? _ _ kh0)).trans kh0), ((hb.cell (p := ⟨ga, oa + t * 5 + 1, none⟩) (World.block_lt_of_cell? _ _ kh1)).trans kh1), ((hb.cell (p := ⟨ga, oa + t * 5 + 2, none⟩) (World.block_lt_of_cell? _ _ kh2)).trans kh2), ((hb.cell (p := ⟨ga, oa + t * 5 + 3, none⟩) (World.block_lt_of_cell? _ _ kh3)).trans kh3), ((hb.cell (p := ⟨ga, oa + t * 5 + 4, none⟩) (World.block_lt_of_cell? _ _ kh4)).trans kh4), ((hb.cell (p := ⟨gb, ob + t * 5, none⟩) (World.block_lt_of_cell? _ _ mh0)).trans mh0), ((hb.cell (p := ⟨gb, ob + t * 5 + 1, none⟩) (World.block_lt_of_cell? _ _ mh1)).trans mh1), ((hb.cell (p := ⟨gb, ob + t * 5 + 2, none⟩) (World.block_lt_of_cell? _ _ mh2)).trans mh2), ((hb.cell (p := ⟨gb, ob + t * 5 + 3, none⟩) (World.block_lt_of_cell? _ _ mh3)).trans mh3), ((hb.cell (p := ⟨gb, ob + t * 5 + 4, none⟩) (World.block_lt_of_cell? _ _ mh4)).trans mh4)⟩
        refine wp_region_held_drew (S := fun x => x.cell? ⟨ga, oa + t * 5, none⟩ = some (.int .i64 kt) ∧ x.cell? ⟨ga, oa + t * 5 + 1, none⟩ = some (.int .i64 kk) ∧ x.cell? ⟨ga, oa + t * 5 + 2, none⟩ = some (.int .i64 kf) ∧ x.cell? ⟨ga, oa + t * 5 + 3, none⟩ = some (.int .i64 kn) ∧ x.cell? ⟨ga, oa + t * 5 + 4, none⟩ = some (.slice ka kl kc) ∧ x.cell? ⟨gb, ob + t * 5, none⟩ = some (.int .i64 mt) ∧ x.cell? ⟨gb, ob + t * 5 + 1, none⟩ = some (.int .i64 mk) ∧ x.cell? ⟨gb, ob + t * 5 + 2, none⟩ = some (.int .i64 mf) ∧ x.cell? ⟨gb, ob + t * 5 + 3, none⟩ = some (.int .i64 mn) ∧ x.cell? ⟨gb, ob + t * 5 + 4, none⟩ = some (.slice ma ml mc)) (by kernel_rfl) ⟨kh0, kh1, kh2, kh3, kh4, mh0, mh1, mh2, mh3, mh4⟩ (fun hHeld => ?_)
        refine wpAnyH_take (i := 0) (v := ?v1x0) rfl (by kernel_rfl) (by kernel_rfl) (by kernel_rfl) (fun _ _ _ h => h) (Or.inl ⟨by rfl, ?hy1x0⟩) (by assumption) ?rest1x0
        case hy1x0 => intro w hSw; obtain ⟨q0, q1, q2, q3, q4, q5, q6, q7, q8, q9⟩ := hSw; go_simp <;> with_reducible rfl
        simp only [Act.put, List.getElem_toArray, List.getElem_cons_zero, List.setIfInBounds_toArray, List.set_cons_zero, List.set_cons_succ]
        refine wpAnyH_take (i := 1) (v := ?v2x1) rfl (by kernel_rfl) (by kernel_rfl) (by kernel_rfl) (fun _ _ _ h => h) (Or.inl ⟨by rfl, ?hy2x1⟩) (by assumption) ?rest2x1
        case hy2x1 => intro w hSw; obtain ⟨q0, q1, q2, q3, q4, q5, q6, q7, q8, q9⟩ := hSw; go_simp <;> with_reducible rfl
        simp only [Act.put, List.getElem_toArray, List.getElem_cons_zero, List.getElem_cons_succ, List.setIfInBounds_toArray, List.set_cons_zero, List.set_cons_succ]
        refine wpAnyH_take (i := 2) (v := ?v3x2) rfl (by kernel_rfl) (by kernel_rfl) (by kernel_rfl) (fun _ _ _ h => h) (Or.inl ⟨by rfl, ?hy3x2⟩) (by assumption) ?rest3x2
        case hy3x2 => intro w hSw; obtain ⟨q0, q1, q2, q3, q4, q5, q6, q7, q8, q9⟩ := hSw; go_simp <;> with_reducible rfl
        simp only [Act.put, List.getElem_toArray, List.getElem_cons_zero, List.getElem_cons_succ, List.setIfInBounds_toArray, List.set_cons_zero, List.set_cons_succ]
        refine wpAnyH_take (i := 3) (v := (.agg #[.int .i64 kt, .int .i64 kk, .int .i64 kf, .int .i64 kn, .slice ka kl kc])) rfl (by kernel_rfl) (by kernel_rfl) (by kernel_rfl) (fun _ _ _ h => h) (Or.inl ⟨by rfl, ?hy4x3⟩) (by assumption) ?rest4x3
        case hy4x3 => intro w hSw; obtain ⟨q0, q1, q2, q3, q4, q5, q6, q7, q8, q9⟩ := hSw; go_simp <;> with_reducible rfl
        simp only [Act.put, List.getElem_toArray, List.getElem_cons_zero, List.getElem_cons_succ, List.setIfInBounds_toArray, List.set_cons_zero, List.set_cons_succ]
        refine wpAnyH_take (i := 4) (v := ?v5x4) rfl (by kernel_rfl) (by kernel_rfl) (by kernel_rfl) (fun _ _ _ h => h) (Or.inl ⟨by rfl, ?hy5x4⟩) (by assumption) ?rest5x4
        case hy5x4 => intro w hSw; obtain ⟨q0, q1, q2, q3, q4, q5, q6, q7, q8, q9⟩ := hSw; go_simp <;> with_reducible rfl
        simp only [Act.put, List.getElem_toArray, List.getElem_cons_zero, List.getElem_cons_succ, List.setIfInBounds_toArray, List.set_cons_zero, List.set_cons_succ]
        refine wpAnyH_take (i := 5) (v := ?v6x5) rfl (by kernel_rfl) (by kernel_rfl) (by kernel_rfl) (fun _ _ _ h => h) (Or.inl ⟨by rfl, ?hy6x5⟩) (by assumption) ?rest6x5
        case hy6x5 => intro w hSw; obtain ⟨q0, q1, q2, q3, q4, q5, q6, q7, q8, q9⟩ := hSw; go_simp <;> with_reducible rfl
        simp only [Act.put, List.getElem_toArray, List.getElem_cons_zero, List.getElem_cons_succ, List.setIfInBounds_toArray, List.set_cons_zero, List.set_cons_succ]
        refine wpAnyH_take (i := 6) (v := ?v7x6) rfl (by kernel_rfl) (by kernel_rfl) (by kernel_rfl) (fun _ _ _ h => h) (Or.inl ⟨by rfl, ?hy7x6⟩) (by assumption) ?rest7x6
        case hy7x6 => intro w hSw; obtain ⟨q0, q1, q2, q3, q4, q5, q6, q7, q8, q9⟩ := hSw; go_simp <;> with_reducible rfl
        simp only [Act.put, List.getElem_toArray, List.getElem_cons_zero, List.getElem_cons_succ, List.setIfInBounds_toArray, List.set_cons_zero, List.set_cons_succ]
        refine wpAnyH_take (i := 7) (v := (.agg #[.int .i64 mt, .int .i64 mk, .int .i64 mf, .int .i64 mn, .slice ma ml mc])) rfl (by kernel_rfl) (by kernel_rfl) (by kernel_rfl) (fun _ _ _ h => h) (Or.inl ⟨by rfl, ?hy8x7⟩) (by assumption) ?rest8x7
        case hy8x7 => intro w hSw; obtain ⟨q0, q1, q2, q3, q4, q5, q6, q7, q8, q9⟩ := hSw; go_simp <;> with_reducible rfl
        simp only [Act.put, List.getElem_toArray, List.getElem_cons_zero, List.getElem_cons_succ, List.setIfInBounds_toArray, List.set_cons_zero, List.set_cons_succ]
        refine wpAnyH_ready (rs := [8]) (by kernel_rfl) (by simp) ?_
        refine AllReadyH.cons rfl (fun K hK => ?_) AllReadyH.nil
        go_simp
        refine (unhide HM).mono ?_
        rintro e w2 ⟨rfl, hb2⟩
        refine hK _ _ (unhide HCX _ hb2) ?_
        clear hK hHeld
        intro hHeld
        refine wpAnyH_take (i := 9) (v := ?v9x9) rfl (by kernel_rfl) (by kernel_rfl) (by kernel_rfl) (fun _ _ _ h => h) (Or.inl ⟨by rfl, ?hy9x9⟩) (by assumption) ?rest9x9
        case hy9x9 => intro w hSw; obtain ⟨q0, q1, q2, q3, q4, q5, q6, q7, q8, q9⟩ := hSw; go_simp <;> with_reducible rfl
        simp only [Act.put, List.getElem_toArray, List.getElem_cons_zero, List.getElem_cons_succ, List.setIfInBounds_toArray, List.set_cons_zero, List.set_cons_succ]
        refine wpAnyH_done (by kernel_rfl) ?_ _
        have HB2 : Hid (Below w.heap.size w w2) := (unhide HB1).trans (hb2.mono (unhide HB1).size)
        clear hb2 HM
        by_cases hxy : kd = md
        · have hd : decide (kd = md) = true := by simpa using hxy
          rw [hd]
          go_wp2
          go_roundw
          case rel =>
            have hall : ∀ u, u < t + 1 → xs.getD u dM = ys.getD u dM := fun u hu => by
              by_cases hut : u < t
              · exact unhide HE u hut
              · obtain rfl : u = t := by omega
                rw [unhide kE, unhide mE, hxy]
            exact ⟨t + 1, by omega, by go_num, hall, unhide HB2⟩
          case measure => simp [intOf]; omega
        · have hd : decide (kd = md) = false := by simpa using hxy
          rw [hd]
          go_wp2
          go_ret
          refine ⟨retBool ?_, unhide HB2⟩
          rw [eq_comm, decide_eq_false_iff_not]
          exact list_differ (d := dM) (t := t) (by rw [unhide kE, unhide mE]; exact hxy)
      · clear hb heq
        go_wp2
        go_ret
        refine ⟨retBool ?_, unhide HW⟩
        rw [eq_comm, decide_eq_true_iff]
        exact list_alike (d := dM) (unhide HL) (fun u hu => unhide HE u (by omega))
  · have hd : decide (xs = ys) = false := by rw [decide_eq_false_iff_not]; exact fun e => hl (by rw [e])
    rw [hd]
    go_enter Tryz.func55, Tryz.ntmps55
    go_wp2
    go_ret
    exact ⟨rfl, Below.refl _ _⟩

theorem cell_heapM {w : World} {b o : Nat} {cs : Array Value} {T : TypeId} (h : w.heap[b]? = some (.cells cs T)) : w.cell? ⟨b, o, none⟩ = cs[o]? := by
  simp [World.cell?, h]
end Go.Proofs.YtggllgimlfchhaaGreat
