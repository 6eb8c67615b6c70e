/- Several texts as one. -/
import Derived.Test.YtoddemcmmijoaaaKF
import Derived.Test.YtoddemcmmijoaaaKD
import Derived.Test.YtoddemcmmijoaaaKL

/- Links: Pass. -/
namespace Go.Proofs.Ytoddemcmmijoaaa
open Go.RowKit Go.Deep
set_option maxRecDepth 100000

/-- A message that can be copied and compared. -/
structure SizeM (m : MsgD) : Prop where
  h1 : m.list.length ≤ 2513169434843
  h2 : ∀ t ∈ m.list, SmallTm t
  h3 : m.ent.txns.length ≤ 1256584717421
  h4 : ∀ x ∈ m.ent.txns, SmallT x
  h5 : m.part.data.length ≤ 140737488351232
  ok : OkM m
theorem OwnM.sees {base : Nat} {w : World} {cs : Array Value} {m : MsgD} (h : OwnM base w cs m) (hz : SizeM m) : SeesM w cs m := by
  obtain ⟨lv, tv, dv, h0, k1, k2, k3⟩ := h
  exact ⟨lv, tv, dv, h0, k1.seesN hz.h1 hz.h2, k2.seesN hz.h3 hz.h4, (sees_of_own k3).2⟩
theorem clone_any {w : World} {cs : Array Value} {m : MsgD} (h : SeesM w cs m) (hz : SizeM m) :
    Calls Try.prog 18 #[.agg cs] w fun e w' => ∃ cs', e = .returned (.agg cs') ∧ OwnM w.heap.size w' cs' m ∧ Below w.heap.size w w' := cloneMsg_any cs m w h hz.h1 hz.h2 hz.h3 hz.h4 hz.h5
theorem OwnM.size {base : Nat} {w : World} {cs : Array Value} {m : MsgD} (h : OwnM base w cs m) : cs.size = 17 ∧ cs.all (·.oneCell') = true := by
  obtain ⟨p, _, rfl, hv⟩ := h.val
  exact ⟨by simp [msgCells], by simpa using hv.one⟩
theorem OwnM.below {base : Nat} {w w' : World} {cs : Array Value} {m : MsgD} (h : OwnM base w cs m) (hb : Below w.heap.size w w') : OwnM base w' cs m := by
  obtain ⟨p, rfl, rfl, hv⟩ := h.val
  exact (hv.below hb).own
theorem OwnM.upd {S : Nat → Prop} {base : Nat} {w w' : World} {cs : Array Value} {m : MsgD} (h : OwnM base w cs m) (hu : Upd S w w') (hS : LnkS w S) : OwnM base w' cs m := by
  obtain ⟨p, rfl, rfl, hv⟩ := h.val
  exact (hv.upd hu hS).own
theorem OwnM.rowSet {base g : Nat} {w : World} {cs old c2 : Array Value} {m : MsgD} (h : OwnM base w cs m) (hg : w.heap[g]? = some (.cells old 38)) : OwnM base (w.setRow g c2) cs m := by
  refine h.upd (S := fun k => k = g) ⟨rfl, rfl, rfl, by simp, fun k _ hk => setRow_other _ _ _ _ hk⟩ fun k hk => ?_
  rw [show k = g from hk]
  exact .inr ⟨_, _, _, hg, .inl rfl⟩
theorem LInv.set38 {base g : Nat} {w : World} {P mb : Nat} {st : List PD} {old c2 : Array Value} (h : LInv base w P mb st) (hg : w.heap[g]? = some (.cells old 38)) (hn : ∀ q ∈ st, ¬ q.own g) : LInv base (w.setRow g c2) P mb st := by
  have hu : Upd (fun k => k = g) w (w.setRow g c2) := ⟨rfl, rfl, rfl, by simp, fun k _ hk => setRow_other _ _ _ _ hk⟩
  have hS : LnkS w (fun k => k = g) := fun k hk => by rw [show k = g from hk]; exact .inr ⟨_, _, _, hg, .inl rfl⟩
  have hP : P ≠ g := fun e => by have := h.box; rw [e, hg] at this; cases this
  have hmb : mb ≠ g := fun e => by obtain ⟨_, es, c, hm, _⟩ := h.map; rw [e, hg] at hm; cases hm
  refine ⟨h.low, (hu.block _ (h.lt (.inl rfl)) hP).trans h.box, ?_, fun q hq => (h.pipe q hq).keep hu (fun k hk e => hn q hq (by rw [← show k = g from e]; exact hk)) hS, h.apart, h.small⟩
  obtain ⟨h1, es, c, h2, h3⟩ := h.map
  exact ⟨h1, es, c, (hu.block _ (h.lt (.inr (.inl rfl))) hmb).trans h2, h3⟩
theorem LInv.new {base : Nat} {w : World} {P mb : Nat} {st : List PD} (h : LInv base w P mb st) {k : Nat} (hk : w.heap.size ≤ k) : ∀ q ∈ st, ¬ q.own k := fun q hq hc => by
  have := ((h.pipe q hq).lt hc).2
  omega
/-- What Pass leaves: nothing has turned but the pipe's first message is gone. -/
def PassR (base : Nat) (w : World) (P mb : Nat) (st : List PD) (a b : Int) (e : Ending) (w' : World) : Prop :=
  ((∀ q, lk st a b = some q → q.l = []) ∧ (∃ c, c ≠ 0 ∧ e = .returned (.tuple #[.agg z17, .int .i64 c])) ∧ Below w.heap.size w w') ∨
  (∃ i q m r v' cs', lk st a b = some q ∧ st[i]? = some q ∧ q.l = m :: r ∧ e = .returned (.tuple #[.agg cs', .int .i64 0]) ∧ OwnM w.heap.size w' cs' m ∧ LInv base w' P mb (st.set i { q with v := v', l := r }) ∧ Upd q.own w w' ∧ v'.ownBlock = q.v.ownBlock)
set_option maxHeartbeats 4000000 in
theorem pass_any {base : Nat} {w : World} {P mb : Nat} {st : List PD} (H : LInv base w P mb st) {a b : Int} (ha : -9223372036854775808 ≤ a ∧ a ≤ 9223372036854775807) (hb : -9223372036854775808 ≤ b ∧ b ≤ 9223372036854775807) (hz : ∀ q ∈ st, ∀ m ∈ q.l, SizeM m) :
    Calls Try.prog 7 #[P0 P, keyV a b] w fun e w' => PassR base w P mb st a b e w' := by
  have hal : Below w.heap.size w ((w.alloc (.cells #[.int .i64 a, .int .i64 b] 24)).alloc (.cells z17 38)) := ((Below.refl _ _).alloc (Nat.le_refl _) _).alloc (by simp) _
  have e0 : (w.alloc (.cells #[.int .i64 a, .int .i64 b] 24)).heap.size = w.heap.size + 1 := by simp
  have hsz : ((w.alloc (.cells #[.int .i64 a, .int .i64 b] 24)).alloc (.cells z17 38)).heap.size = w.heap.size + 2 := by simp
  have hk : ((w.alloc (.cells #[.int .i64 a, .int .i64 b] 24)).alloc (.cells z17 38)).heap[w.heap.size]? = some (.cells #[.int .i64 a, .int .i64 b] 24) := (heap_alloc_old _ _ (by omega)).trans (heap_alloc_new w _)
  have hr : ((w.alloc (.cells #[.int .i64 a, .int .i64 b] 24)).alloc (.cells z17 38)).heap[w.heap.size + 1]? = some (.cells z17 38) := by have := heap_alloc_new (w.alloc (.cells #[.int .i64 a, .int .i64 b] 24)) (.cells z17 38); rwa [e0] at this
  obtain ⟨y0, hy0⟩ : ∃ y, (w.alloc (.cells #[.int .i64 a, .int .i64 b] 24)).alloc (.cells z17 38) = y := ⟨_, rfl⟩
  rw [hy0] at hal hsz hk hr
  have H0 := H.below hal
  have HF := hide (ff_any H0 ha hb)
  have g0 : y0.cell? ⟨w.heap.size, 0, none⟩ = some (.int .i64 a) := cell_of_heap' hk
  have g1 : y0.cell? ⟨w.heap.size, 1, none⟩ = some (.int .i64 b) := cell_of_heap' hk
  have HA := hide (And.intro hal (And.intro hsz hr))
  have HH := hide H
  have HZ := hide hz
  clear hal e0 hsz hk hr H0 H hz
  unfold keyV at *
  go_enter Try.func7, Try.ntmps7
  go_wp2_with (first | rw [hy0] | fail)
  refine (unhide HF).mono ?_
  rintro e w1 ⟨hff, hb1⟩
  obtain ⟨hal, hsz, hr⟩ := unhide HA
  have hw1 : Below w.heap.size w w1 := hal.trans (hb1.mono hal.size)
  have hr1 : w1.heap[w.heap.size + 1]? = some (.cells z17 38) := (hb1.block _ (by omega)).trans hr
  rcases hff with ⟨hn, rfl⟩ | ⟨q, hq, hl0, rfl⟩ | ⟨q, hq, hl0, rfl⟩
  · have HR : Hid ((∀ q, lk st a b = some q → q.l = []) ∧ Below w.heap.size w (w1.setRow (w.heap.size + 1) z17)) := ⟨(fun q h => by rw [hn] at h; cases h), below_setRow hw1 (by omega)⟩
    have HZ9 : Hid ((w1.setRow (w.heap.size + 1) z17).heap[w.heap.size + 1]? = some (.cells z17 38)) := setRow_heap _ _ _ _ _ _ hr1
    obtain ⟨y9, hy9⟩ : ∃ y, w1.setRow (w.heap.size + 1) z17 = y := ⟨_, rfl⟩
    rw [hy9] at HR HZ9
    have HR1 := hide hr1
    clear hr hal hsz hb1 hw1 hr1
    go_wp2_with (first | rw [hy9] | refine wpList_store_row rfl 38 _ _ rfl (w.heap.size + 1) _ _ rfl rfl 38 (unhide HR1) (by kernel_rfl) rfl (by first | kernel_rfl | simp [Value.oneCell']) ?_)
    refine bodyPost_ret (results_cell_row_tmp rfl _ _ (w.heap.size + 1) 38 z17 (0, 0) _ rfl (unhide HZ9) Try.underlying38 rfl (by kernel_rfl)) rfl ?_
    exact .inl ⟨(unhide HR).1, ⟨1, by decide, rfl⟩, (unhide HR).2⟩
  · have HR : Hid ((∀ q, lk st a b = some q → q.l = []) ∧ Below w.heap.size w (w1.setRow (w.heap.size + 1) z17)) := ⟨(fun q' h => by rw [hq] at h; cases h; exact List.length_eq_zero_iff.1 hl0), below_setRow hw1 (by omega)⟩
    have HZ9 : Hid ((w1.setRow (w.heap.size + 1) z17).heap[w.heap.size + 1]? = some (.cells z17 38)) := setRow_heap _ _ _ _ _ _ hr1
    obtain ⟨y9, hy9⟩ : ∃ y, w1.setRow (w.heap.size + 1) z17 = y := ⟨_, rfl⟩
    rw [hy9] at HR HZ9
    have HR1 := hide hr1
    clear hr hal hsz hb1 hw1 hr1 hl0
    go_wp2_with (first | rw [hy9] | refine wpList_store_row rfl 38 _ _ rfl (w.heap.size + 1) _ _ rfl rfl 38 (unhide HR1) (by kernel_rfl) rfl (by first | kernel_rfl | simp [Value.oneCell']) ?_)
    refine bodyPost_ret (results_cell_row_tmp rfl _ _ (w.heap.size + 1) 38 z17 (0, 0) _ rfl (unhide HZ9) Try.underlying38 rfl (by kernel_rfl)) rfl ?_
    exact .inl ⟨(unhide HR).1, ⟨4, by decide, rfl⟩, (unhide HR).2⟩
  · obtain ⟨i, hi⟩ := lk_at hq
    have hqm := (lk_some hq).1
    have H1 := (unhide HH).below hw1
    have HC1 := hide (first_any (H1.pipe q hqm) hl0)
    have HW1 := hide hw1
    have HR1 := hide hr1
    have HQ := hide (And.intro hq (And.intro hi hqm))
    have HB1 : Hid (w.heap.size + 2 ≤ w1.heap.size) := by have := hb1.size; show _ ≤ _; omega
    have HL0 := hide hl0
    clear hr hal hsz hb1 hw1 hr1 H1 hq hi hqm hl0
    go_wp2_with fail
    refine (unhide HC1).mono ?_
    rintro e w2 ⟨p, rfl, ⟨r, hpl⟩, hov, hb2⟩
    have hsm : SizeM p.1 := unhide HZ q (unhide HQ).2.2 p.1 (by rw [hpl]; exact List.mem_cons_self ..)
    have HC2 := hide (clone_any (hov.own.sees hsm) hsm)
    have HB2 := hide hb2
    have HPL := hide hpl
    clear hov hb2 hsm hpl
    go_wp2_with fail
    refine (unhide HC2).mono ?_
    rintro e w3 ⟨cs', rfl, hom, hb3⟩
    obtain ⟨hcs, hone⟩ := hom.size
    have s2 : w1.heap.size ≤ w2.heap.size := (unhide HB2).size
    have hw3 : Below w.heap.size w w3 := (unhide HW1).trans (((unhide HB2).mono (unhide HW1).size).trans (hb3.mono (Nat.le_trans (unhide HW1).size s2)))
    have hr3 : w3.heap[w.heap.size + 1]? = some (.cells z17 38) := (hb3.block _ (by have := unhide HB1; omega)).trans (((unhide HB2).block _ (by have := unhide HB1; omega)).trans (unhide HR1))
    have s3 := hb3.size
    have s1 := unhide HB1
    have hal4 : Below w3.heap.size w3 (w3.alloc (.cells z17 38)) := below_box z17 38
    have hx4 : (w3.alloc (.cells z17 38)).heap[w3.heap.size]? = some (.cells z17 38) := heap_alloc_new w3 _
    have hs4 : (w3.alloc (.cells z17 38)).heap.size = w3.heap.size + 1 := by simp
    obtain ⟨y4, hy4⟩ : ∃ y, w3.alloc (.cells z17 38) = y := ⟨_, rfl⟩
    rw [hy4] at hal4 hx4 hs4
    have hw4 : Below w.heap.size w y4 := hw3.trans (hal4.mono hw3.size)
    have hx5 : (y4.setRow w3.heap.size cs').heap[w3.heap.size]? = some (.cells cs' 38) := setRow_heap _ _ _ _ _ _ hx4
    have hw5 : Below w.heap.size w (y4.setRow w3.heap.size cs') := below_setRow hw4 hw3.size
    have ho5 : OwnM w.heap.size (y4.setRow w3.heap.size cs') cs' p.1 := by
      have h1 := (hom.below hal4).rowSet (c2 := cs') hx4
      obtain ⟨p', e1, e2, h2⟩ := h1.val
      have h3 := (h2.mono (show w.heap.size ≤ w2.heap.size by omega)).own
      rw [e1, ← e2] at h3
      exact h3
    have hr5 : (y4.setRow w3.heap.size cs').heap[w.heap.size + 1]? = some (.cells z17 38) := (setRow_other _ _ _ _ (by omega)).trans ((hal4.block _ (by omega)).trans hr3)
    have hz5 : (y4.setRow w3.heap.size cs').heap.size = w3.heap.size + 1 := by rw [setRow_size]; exact hs4
    obtain ⟨y5, hy5⟩ : ∃ y, y4.setRow w3.heap.size cs' = y := ⟨_, rfl⟩
    rw [hy5] at hx5 hw5 ho5 hr5 hz5
    have H5 := (unhide HH).below hw5
    have HC3 := hide (drop_any H5 (unhide HQ).2.1 (unhide HL0))
    have HX4 := hide hx4
    have HF5 := hide (And.intro hx5 (And.intro hw5 (And.intro ho5 (And.intro hr5 (And.intro hz5 (And.intro s1 (And.intro s2 s3)))))))
    clear hom hb3 s2 hw3 hr3 s3 s1 hal4 hx4 hs4 hw4 hx5 hw5 ho5 hr5 hz5 H5
    go_wp2_with (first | rw [hy4] | rw [hy5] | refine wpList_store_row rfl 38 _ _ rfl w3.heap.size _ _ rfl rfl 38 (unhide HX4) (by rw [hcs]; exact info38s) (by rw [hcs]; rfl) hone ?_)
    refine (unhide HC3).mono ?_
    rintro e w6 ⟨rfl, v', hL6, hU6, hv6⟩
    obtain ⟨hx5, hw5, ho5, hr5, hz5, s1, s2, s3⟩ := unhide HF5
    have hown : ∀ k, q.own k → k < w.heap.size := fun k hk => (((unhide HH).pipe q (unhide HQ).2.2).lt hk).2
    have hty := ((unhide HH).below hw5).pipe q (unhide HQ).2.2 |>.typed
    have hx6 : w6.heap[w3.heap.size]? = some (.cells cs' 38) := (hU6.block _ (by omega) (fun c => by have := hown _ c; omega)).trans hx5
    have hr6 : w6.heap[w.heap.size + 1]? = some (.cells z17 38) := (hU6.block _ (by omega) (fun c => by have := hown _ c; omega)).trans hr5
    have ho6 := ho5.upd hU6 hty
    have hL7 : LInv base (w6.setRow (w.heap.size + 1) cs') P mb (st.set i { q with v := v', l := q.l.drop 1 }) := hL6.set38 hr6 (fun q1 hq1 c => by
      rcases List.mem_or_eq_of_mem_set hq1 with h | rfl
      · have := (((unhide HH).pipe q1 h).lt c).2; omega
      · rcases c with c | c
        · have := hown q.g (.inl rfl); simp only at c; omega
        · have := hown (w.heap.size + 1) (.inr (by rw [← hv6]; exact c)); omega)
    have hU7 : Upd q.own w (w6.setRow (w.heap.size + 1) cs') := ((Upd.of hw5).trans hU6 (fun _ h => .inl h)).trans (S' := fun k => k = w.heap.size + 1) ⟨rfl, rfl, rfl, by simp, fun k _ hk => setRow_other _ _ _ _ hk⟩ (fun k hk => .inr (by rw [show k = w.heap.size + 1 from hk]; omega))
    have ho7 := ho6.rowSet (c2 := cs') hr6
    have hx7 : (w6.setRow (w.heap.size + 1) cs').heap[w.heap.size + 1]? = some (.cells cs' 38) := setRow_heap _ _ _ _ _ _ hr6
    obtain ⟨y7, hy7⟩ : ∃ y, w6.setRow (w.heap.size + 1) cs' = y := ⟨_, rfl⟩
    rw [hy7] at hL7 hU7 ho7 hx7
    have HX6 := hide hx6
    have HR6 := hide hr6
    have HX7 := hide hx7
    have HEND := hide (And.intro hL7 (And.intro hU7 (And.intro ho7 hv6)))
    clear hL6 hU6 hv6 hx5 hw5 ho5 hr5 hz5 s1 s2 s3 hown hty hx6 hr6 ho6 hL7 hU7 ho7 hx7
    go_wp2_with (first | rw [hy7] | refine wpList_load_row rfl 38 _ rfl w3.heap.size rfl 38 _ (0, 0) _ (unhide HX6) Try.underlying38 rfl (by rw [hcs]; exact info38s) ?_ | refine wpList_store_row rfl 38 _ _ rfl (w.heap.size + 1) _ _ rfl rfl 38 (unhide HR6) (by rw [hcs]; exact info38s) (by rw [hcs]; rfl) hone ?_)
    refine bodyPost_ret (results_cell_row_tmp rfl _ _ (w.heap.size + 1) 38 cs' (0, 0) _ rfl (unhide HX7) Try.underlying38 rfl (by rw [hcs]; exact info38s)) rfl ?_
    obtain ⟨hL7, hU7, ho7, hv6⟩ := unhide HEND
    exact .inr ⟨i, q, p.1, r, v', cs', (unhide HQ).1, (unhide HQ).2.1, unhide HPL, rfl, ho7, by have e := unhide HPL; rw [e] at hL7; exact hL7, hU7, hv6⟩
end Go.Proofs.Ytoddemcmmijoaaa

/- Links: Send. -/
namespace Go.Proofs.Ytoddemcmmijoaaa
open Go.RowKit Go.Deep
set_option maxRecDepth 100000

/-- Messages that came in. -/
def SeesMs (w : World) (v : Value) (vs : List MV) : Prop :=
  ∃ ao cap gb ob, v = .slice ao vs.length cap ∧ vs.length ≤ cap ∧ vs.length ≤ 9223372036854775807 ∧ (0 < vs.length → ao = some ⟨gb, ob, none⟩) ∧ ∀ (t : Nat) p, vs[t]? = some p → w.rangeAt gb (ob + t * 17) (msgCells p) ∧ SeesM w (msgCells p).toArray p.1
/-- A message is sent, or is not. -/
def Snd1 (m : MsgD) (st st' : List PD) (c : Nat) : Prop :=
  (∃ (i : Nat) (q : PD) (v' : Value), st[i]? = some q ∧ lk st m.frm m.to = some q ∧ q.cut = false ∧ q.l.length < 256 ∧ mayMsg m = true ∧ st' = st.set i { q with v := v', l := q.l ++ [m] } ∧ c = 1) ∨
  ((∀ q, lk st m.frm m.to = some q → q.cut = true ∨ 256 ≤ q.l.length ∨ mayMsg m = false) ∧ st' = st ∧ c = 0)
inductive SndL : List MsgD → List PD → List PD → Nat → Prop
  | nil (st : List PD) : SndL [] st st 0
  | snoc {l : List MsgD} {m : MsgD} {st st1 st2 : List PD} {c d : Nat} : SndL l st st1 c → Snd1 m st1 st2 d → SndL (l ++ [m]) st st2 (c + d)
def Owned (st : List PD) (k : Nat) : Prop := ∃ q ∈ st, q.own k
theorem SndL.le {l : List MsgD} {st st' : List PD} {c : Nat} (h : SndL l st st' c) : c ≤ l.length := by
  induction h with
  | nil => simp
  | snoc _ h ih =>
    rcases h with ⟨_, _, _, _, _, _, _, _, _, rfl⟩ | ⟨_, _, rfl⟩ <;> simp <;> omega
/-- A message goes on, or it does not, or there is no way. -/
theorem snd_cases (st : List PD) (m : MsgD) : lk st m.frm m.to = none ∨ ∃ q, lk st m.frm m.to = some q ∧ (q.cut = true ∨ (q.cut = false ∧ (256 ≤ q.l.length ∨ (q.l.length < 256 ∧ (mayMsg m = false ∨ mayMsg m = true))))) := by
  cases h : lk st m.frm m.to with
  | none => exact .inl rfl
  | some q =>
    refine .inr ⟨q, rfl, ?_⟩
    cases hc : q.cut with
    | true => exact .inl rfl
    | false =>
      refine .inr ⟨rfl, ?_⟩
      rcases Nat.lt_or_ge q.l.length 256 with h | h
      · refine .inr ⟨h, ?_⟩
        cases mayMsg m with
        | true => exact .inr rfl
        | false => exact .inl rfl
      · exact .inl h

theorem seesM_one {w : World} {p : MV} (h : SeesM w (msgCells p).toArray p.1) : (msgCells p).toArray.all (·.oneCell') = true := by
  obtain ⟨lv, tv, dv, h0, h1, h2, h3⟩ := h
  obtain ⟨a1, k1, _, _, e1, _⟩ := h1
  obtain ⟨a2, k2, _, _, e2, _⟩ := h2
  obtain ⟨a3, k3, e3, _⟩ := h3
  rw [h0, e1, e2, e3]
  simp [Value.oneCell']
set_option maxHeartbeats 8000000 in
theorem send_any {base : Nat} {w : World} {P mb : Nat} {st : List PD} (H : LInv base w P mb st) (hbw : base ≤ w.heap.size) {v : Value} {vs : List MV} (hS : ∀ x, Upd (Owned st) w x → SeesMs x v vs) (hz : ∀ p ∈ vs, SizeM p.1)
    (hf : ∀ p ∈ vs, (-9223372036854775808 ≤ p.1.frm ∧ p.1.frm ≤ 9223372036854775807) ∧ -9223372036854775808 ≤ p.1.to ∧ p.1.to ≤ 9223372036854775807) :
    Calls Try.prog 6 #[P0 P, v] w fun e w' => ∃ st' c, e = .returned (.int .i64 (c : Nat)) ∧ SndL (vs.map (·.1)) st st' c ∧ LInv base w' P mb st' ∧ Upd (Owned st) w w' ∧ ∀ k, Owned st' k → Owned st k ∨ w.heap.size ≤ k := by
  have HS := hide hS
  have HZ := hide hz
  have HF := hide hf
  obtain ⟨ao, cap, gb, ob, rfl, hlc, hlm, hao, _⟩ := hS w (Upd.refl _ _)
  obtain ⟨n, hn⟩ : ∃ n, vs.length = n := ⟨_, rfl⟩
  rw [hn] at HS hlc hlm hao ⊢
  have HN := hide hn
  have HAO := hide hao
  have HH := hide (And.intro H hbw)
  clear hS hz hf hn hao H hbw
  go_enter Try.func6, Try.ntmps6
  go_wp2
  go_loopw [5, 12] (fun u i wr => ∃ (k c : Nat) (st' : List PD), k ≤ n ∧ i = .int .i64 k ∧ u = .int .i64 c ∧ SndL ((vs.take k).map (·.1)) st st' c ∧ LInv base wr P mb st' ∧ Upd (Owned st) w wr ∧ ∀ k, Owned st' k → Owned st k ∨ w.heap.size ≤ k) (fun _ i _ => n - (intOf i).toNat)
  case atStart => exact ⟨0, 0, st, Nat.zero_le _, rfl, rfl, SndL.nil st, (unhide HH).1, Upd.refl _ _, fun k h => .inl h⟩
  case round =>
    obtain ⟨k, c, st', hk, rfl, rfl, hsl, hL, hU, hfr⟩ := hrel
    by_cases hlt : k < n
    · have hdb : decide ((k : Int) < n) = true := by simp; omega
      have hlv : k < vs.length := by rw [unhide HN]; exact hlt
      obtain ⟨p, hp⟩ : ∃ p, vs[k]? = some p := ⟨_, List.getElem?_eq_getElem hlv⟩
      have hpm : p ∈ vs := List.mem_of_getElem? hp
      have htk : (vs.take (k + 1)).map (·.1) = (vs.take k).map (·.1) ++ [p.1] := by
        rw [List.take_add_one, hp, List.map_append]; rfl
      obtain ⟨ao', cap', gb', ob', hv', _, _, hao', hrow⟩ := unhide HS wr hU
      obtain ⟨rfl, -, rfl⟩ : ao = ao' ∧ n = vs.length ∧ cap = cap' := by simpa using hv'
      obtain rfl := hao' (by rw [unhide HN]; omega)
      obtain ⟨hra, hse⟩ := hrow k p hp
      have hsz := unhide HZ p hpm
      have hfit := unhide HF p hpm
      have hk0 : (0 : Int) ≤ (k : Int) := by omega
      have hkn : (k : Int) < (n : Int) := by omega
      have hlen : (msgCells p).toArray.size = 17 := by simp [msgCells]
      have hlenL : (msgCells p).length = 17 := rfl
      have hone : (msgCells p).toArray.all (·.oneCell') = true := seesM_one hse
      have hal : Below wr.heap.size wr (wr.alloc (.cells z17 38)) := below_box z17 38
      have hx0 : (wr.alloc (.cells z17 38)).heap[wr.heap.size]? = some (.cells z17 38) := heap_alloc_new wr _
      obtain ⟨y0, hy0⟩ : ∃ y, wr.alloc (.cells z17 38) = y := ⟨_, rfl⟩
      rw [hy0] at hal hx0
      have hb1 : Below wr.heap.size wr (y0.setRow wr.heap.size (msgCells p).toArray) := below_setRow hal (Nat.le_refl _)
      have hx1 : (y0.setRow wr.heap.size (msgCells p).toArray).heap[wr.heap.size]? = some (.cells (msgCells p).toArray 38) := setRow_heap _ _ _ _ _ _ hx0
      obtain ⟨y1, hy1⟩ : ∃ y, y0.setRow wr.heap.size (msgCells p).toArray = y := ⟨_, rfl⟩
      rw [hy1] at hb1 hx1
      have c1 : y1.cell? ⟨wr.heap.size, 1, none⟩ = some (.int .i64 p.1.frm) := by rw [cell_heapM hx1]; rfl
      have c2 : y1.cell? ⟨wr.heap.size, 2, none⟩ = some (.int .i64 p.1.to) := by rw [cell_heapM hx1]; rfl
      have s1 : wr.heap.size < y1.heap.size := (Array.getElem?_eq_some_iff.1 hx1).1
      have HFd := hide (find_any (hL.below hb1) hfit.1 hfit.2)
      have HX : Hid (∀ x, Below y1.heap.size y1 x → x.heap[wr.heap.size]? = some (.cells (msgCells p).toArray 38)) := fun x hx => (hx.block _ s1).trans hx1
      have HLx : Hid (∀ x, Below y1.heap.size y1 x → LInv base x P mb st' ∧ Below wr.heap.size wr x ∧ SeesM x (msgCells p).toArray p.1) := fun x hx => by
        have hbx : Below wr.heap.size wr x := hb1.trans (hx.mono (by omega))
        exact ⟨hL.below hbx, hbx, hse.below hbx⟩
      have HNO : Hid (∀ x, Below wr.heap.size wr x → (∀ q, lk st' p.1.frm p.1.to = some q → q.cut = true ∨ 256 ≤ q.l.length ∨ mayMsg p.1 = false) → SndL ((vs.take (k + 1)).map (·.1)) st st' c ∧ LInv base x P mb st' ∧ Upd (Owned st) w x ∧ ∀ k, Owned st' k → Owned st k ∨ w.heap.size ≤ k) := fun x hx hno => by
        refine ⟨?_, hL.below hx, hU.trans (Upd.of (S := Owned st) hx) (fun _ h => .inl h), hfr⟩
        rw [htk]
        exact SndL.snoc (d := 0) hsl (.inr ⟨hno, rfl, rfl⟩)
      have hcl : c ≤ k := by have := hsl.le; rw [List.length_map, List.length_take] at this; omega
      have HRA := hide hra
      have HZ0 := hide hx0
      have HHL := hide (And.intro hL (And.intro hU (And.intro hfr (And.intro hsl (And.intro htk hsz)))))
      have hkw : IntKind.i64.wrap ((c : Int) + 1) = ((c + 1 : Nat) : Int) := by rw [wrap_i64 _ (by omega) (by omega)]; omega
      obtain ⟨fr, hfr'⟩ : ∃ f, p.1.frm = f := ⟨_, rfl⟩
      obtain ⟨to, hto'⟩ : ∃ f, p.1.to = f := ⟨_, rfl⟩
      rw [hfr', hto'] at HFd HNO
      rw [hfr'] at c1
      rw [hto'] at c2
      obtain ⟨cs, hcs⟩ : ∃ c, (msgCells p).toArray = c := ⟨_, rfl⟩
      obtain ⟨cl, hclL⟩ : ∃ c, msgCells p = c := ⟨_, rfl⟩
      have hcc : cl.toArray = cs := by rw [← hcs, ← hclL]
      rw [hcs] at HX HLx hlen hone hy1
      rw [hclL] at HRA hlenL
      have HCS := hide hcs
      have hsc := snd_cases st' p.1
      rw [hfr', hto'] at hsc
      have HFT := hide (And.intro hfr' hto')
      clear hra hse hsz hfit hal hx0 hx1 s1 hL hU hfr hsl htk hb1 hv' hao' hrow hp hpm hfr' hto' hclL
      unfold keyV at HFd
      rcases hsc with hnone | ⟨q, hq, hcut | ⟨hcut, hfull | ⟨hnf, hmay | hmay⟩⟩⟩
      · rw [hnone] at HFd
        simp only [ptrOf, eOf] at HFd
        have HNN : Hid (∀ q, lk st' fr to = some q → q.cut = true ∨ 256 ≤ q.l.length ∨ mayMsg p.1 = false) := fun q h => by rw [hnone] at h; cases h
        clear hnone
        go_wp2_with (first | rw [hy0] | (rw [hcc]) | rw [hy1] | refine wpList_load_mid rfl 38 _ rfl gb' (ob' + k * 17) rfl cl _ ((unhide HRA)) Try.underlying38 rfl (by rw [hlenL]; exact info38s) ?_ | refine wpList_store_row rfl 38 _ _ rfl wr.heap.size _ _ rfl rfl 38 (unhide HZ0) (by rw [hlen]; exact info38s) (by rw [hlen]; rfl) hone ?_)
        refine (unhide HFd).mono ?_
        rintro e w2 ⟨rfl, hb2⟩
        have HG := hide (unhide HNO w2 (unhide HLx w2 hb2).2.1 (unhide HNN))
        clear hb2
        go_wp2
        go_roundw
        case rel => first | exact ⟨k + 1, c, st', by omega, by go_num, rfl, unhide HG⟩ | ((repeat apply Exists.intro); exact ⟨⟨k + 1, c, st', by omega, rfl, rfl, unhide HG⟩, rfl⟩)
        case measure => simp [intOf]; omega
      · rw [hq] at HFd
        simp only [ptrOf, eOf] at HFd
        have hqm := (lk_some hq).1
        have HC : Hid (∀ x, Below y1.heap.size y1 x → x.cell? ⟨q.g, 0, none⟩ = some (.bool true)) := fun x hx => by rw [← hcut]; exact ((unhide HLx x hx).1.pipe q hqm).cell0
        have HNN : Hid (∀ q, lk st' fr to = some q → q.cut = true ∨ 256 ≤ q.l.length ∨ mayMsg p.1 = false) := fun q' h => by rw [hq] at h; cases h; exact .inl hcut
        clear hq hqm hcut
        go_wp2_with (first | rw [hy0] | (rw [hcc]) | rw [hy1] | refine wpList_load_mid rfl 38 _ rfl gb' (ob' + k * 17) rfl cl _ ((unhide HRA)) Try.underlying38 rfl (by rw [hlenL]; exact info38s) ?_ | refine wpList_store_row rfl 38 _ _ rfl wr.heap.size _ _ rfl rfl 38 (unhide HZ0) (by rw [hlen]; exact info38s) (by rw [hlen]; rfl) hone ?_)
        refine (unhide HFd).mono ?_
        rintro e w2 ⟨rfl, hb2⟩
        have HG := hide (unhide HNO w2 (unhide HLx w2 hb2).2.1 (unhide HNN))
        have cc := unhide HC w2 hb2
        clear hb2
        go_wp2
        go_roundw
        case rel => first | exact ⟨k + 1, c, st', by omega, by go_num, rfl, unhide HG⟩ | ((repeat apply Exists.intro); exact ⟨⟨k + 1, c, st', by omega, rfl, rfl, unhide HG⟩, rfl⟩)
        case measure => simp [intOf]; omega
      · rw [hq] at HFd
        simp only [ptrOf, eOf] at HFd
        have hqm := (lk_some hq).1
        have HC : Hid (∀ x, Below y1.heap.size y1 x → x.cell? ⟨q.g, 0, none⟩ = some (.bool false)) := fun x hx => by rw [← hcut]; exact ((unhide HLx x hx).1.pipe q hqm).cell0
        have HFu : Hid (∀ x, Below y1.heap.size y1 x → Calls Try.prog 15 #[P0 q.g] x fun e w' => e = .returned (.bool true) ∧ x = w') := fun x hx => by
          have := full_any ((unhide HLx x hx).1.pipe q hqm)
          rwa [decide_eq_true hfull] at this
        have HNN : Hid (∀ q, lk st' fr to = some q → q.cut = true ∨ 256 ≤ q.l.length ∨ mayMsg p.1 = false) := fun q' h => by rw [hq] at h; cases h; exact .inr (.inl hfull)
        clear hq hqm hcut hfull
        go_wp2_with (first | rw [hy0] | (rw [hcc]) | rw [hy1] | refine wpList_load_mid rfl 38 _ rfl gb' (ob' + k * 17) rfl cl _ ((unhide HRA)) Try.underlying38 rfl (by rw [hlenL]; exact info38s) ?_ | refine wpList_store_row rfl 38 _ _ rfl wr.heap.size _ _ rfl rfl 38 (unhide HZ0) (by rw [hlen]; exact info38s) (by rw [hlen]; rfl) hone ?_)
        refine (unhide HFd).mono ?_
        rintro e w2 ⟨rfl, hb2⟩
        have HG := hide (unhide HNO w2 (unhide HLx w2 hb2).2.1 (unhide HNN))
        have cc := unhide HC w2 hb2
        have HF2 := hide (unhide HFu w2 hb2)
        clear hb2
        go_wp2_with fail
        refine (unhide HF2).mono ?_
        rintro e w3 ⟨rfl, rfl⟩
        go_wp2
        go_roundw
        case rel => first | exact ⟨k + 1, c, st', by omega, by go_num, rfl, unhide HG⟩ | ((repeat apply Exists.intro); exact ⟨⟨k + 1, c, st', by omega, rfl, rfl, unhide HG⟩, rfl⟩)
        case measure => simp [intOf]; omega
      · rw [hq] at HFd
        simp only [ptrOf, eOf] at HFd
        have hqm := (lk_some hq).1
        have HC : Hid (∀ x, Below y1.heap.size y1 x → x.cell? ⟨q.g, 0, none⟩ = some (.bool false)) := fun x hx => by rw [← hcut]; exact ((unhide HLx x hx).1.pipe q hqm).cell0
        have HFu : Hid (∀ x, Below y1.heap.size y1 x → Calls Try.prog 15 #[P0 q.g] x fun e w' => e = .returned (.bool false) ∧ x = w') := fun x hx => by
          have := full_any ((unhide HLx x hx).1.pipe q hqm)
          rwa [decide_eq_false (by omega)] at this
        have HNN : Hid (∀ q, lk st' fr to = some q → q.cut = true ∨ 256 ≤ q.l.length ∨ mayMsg p.1 = false) := fun _ _ => .inr (.inr hmay)
        clear hq hqm hcut hnf
        go_wp2_with (first | rw [hy0] | (rw [hcc]) | rw [hy1] | refine wpList_load_mid rfl 38 _ rfl gb' (ob' + k * 17) rfl cl _ ((unhide HRA)) Try.underlying38 rfl (by rw [hlenL]; exact info38s) ?_ | refine wpList_store_row rfl 38 _ _ rfl wr.heap.size _ _ rfl rfl 38 (unhide HZ0) (by rw [hlen]; exact info38s) (by rw [hlen]; rfl) hone ?_)
        refine (unhide HFd).mono ?_
        rintro e w2 ⟨rfl, hb2⟩
        have cc := unhide HC w2 hb2
        have HF2 := hide (unhide HFu w2 hb2)
        have HB2 := hide hb2
        clear hb2
        go_wp2_with fail
        refine (unhide HF2).mono ?_
        rintro e w3 ⟨rfl, rfl⟩
        have HX2 := hide (unhide HX w2 (unhide HB2))
        have HK := hide (checkMsg_any cs p.1 w2 (unhide HLx w2 (unhide HB2)).2.2 (unhide HHL).2.2.2.2.2.ok)
        rw [hmay] at HK
        simp only [reduceIte, Bool.false_eq_true] at HK
        go_wp2_with (first | refine wpList_load_wanted (by rfl) 38 _ rfl wr.heap.size rfl 38 _ (0, 0) _ (unhide HX2) Try.underlying38 rfl (by rw [hlen]; exact info38s) ?_ | refine wpList_load_row rfl 38 _ rfl wr.heap.size rfl 38 _ (0, 0) _ (unhide HX2) Try.underlying38 rfl (by rw [hlen]; exact info38s) ?_)
        refine (unhide HK).mono ?_
        rintro e w4 ⟨rfl, hb4⟩
        have HG := hide (unhide HNO w4 ((unhide HLx w2 (unhide HB2)).2.1.trans (hb4.mono (unhide HLx w2 (unhide HB2)).2.1.size)) (unhide HNN))
        clear hb4
        go_wp2
        go_roundw
        case rel => first | exact ⟨k + 1, c, st', by omega, by go_num, rfl, unhide HG⟩ | ((repeat apply Exists.intro); exact ⟨⟨k + 1, c, st', by omega, rfl, rfl, unhide HG⟩, rfl⟩)
        case measure => simp [intOf]; omega
      · rw [hq] at HFd
        simp only [ptrOf, eOf] at HFd
        have hqm := (lk_some hq).1
        have HC : Hid (∀ x, Below y1.heap.size y1 x → x.cell? ⟨q.g, 0, none⟩ = some (.bool false)) := fun x hx => by rw [← hcut]; exact ((unhide HLx x hx).1.pipe q hqm).cell0
        have HFu : Hid (∀ x, Below y1.heap.size y1 x → Calls Try.prog 15 #[P0 q.g] x fun e w' => e = .returned (.bool false) ∧ x = w') := fun x hx => by
          have := full_any ((unhide HLx x hx).1.pipe q hqm)
          rwa [decide_eq_false (by omega)] at this
        obtain ⟨i, hi⟩ := lk_at hq
        have HQ := hide (And.intro hq (And.intro hi (And.intro hqm (And.intro hcut hnf))))
        clear hq hqm hcut hnf hi
        go_wp2_with (first | rw [hy0] | (rw [hcc]) | rw [hy1] | refine wpList_load_mid rfl 38 _ rfl gb' (ob' + k * 17) rfl cl _ ((unhide HRA)) Try.underlying38 rfl (by rw [hlenL]; exact info38s) ?_ | refine wpList_store_row rfl 38 _ _ rfl wr.heap.size _ _ rfl rfl 38 (unhide HZ0) (by rw [hlen]; exact info38s) (by rw [hlen]; rfl) hone ?_)
        refine (unhide HFd).mono ?_
        rintro e w2 ⟨rfl, hb2⟩
        have cc := unhide HC w2 hb2
        have HF2 := hide (unhide HFu w2 hb2)
        have HB2 := hide hb2
        clear hb2
        go_wp2_with fail
        refine (unhide HF2).mono ?_
        rintro e w3 ⟨rfl, rfl⟩
        have HX2 := hide (unhide HX w2 (unhide HB2))
        have HK := hide (checkMsg_any cs p.1 w2 (unhide HLx w2 (unhide HB2)).2.2 (unhide HHL).2.2.2.2.2.ok)
        rw [hmay] at HK
        simp only [reduceIte] at HK
        go_wp2_with (first | refine wpList_load_wanted (by rfl) 38 _ rfl wr.heap.size rfl 38 _ (0, 0) _ (unhide HX2) Try.underlying38 rfl (by rw [hlen]; exact info38s) ?_ | refine wpList_load_row rfl 38 _ rfl wr.heap.size rfl 38 _ (0, 0) _ (unhide HX2) Try.underlying38 rfl (by rw [hlen]; exact info38s) ?_)
        refine (unhide HK).mono ?_
        rintro e w4 ⟨rfl, hb4⟩
        have hb24 : Below y1.heap.size y1 w4 := (unhide HB2).trans (hb4.mono (unhide HB2).size)
        have HX4 := hide (unhide HX w4 hb24)
        have HC4 := hide (clone_any (unhide HLx w4 hb24).2.2 (unhide HHL).2.2.2.2.2)
        have HB4 := hide hb24
        clear hb4 hb24
        go_wp2_with (first | refine wpList_load_row rfl 38 _ rfl wr.heap.size rfl 38 _ (0, 0) _ (unhide HX4) Try.underlying38 rfl (by rw [hlen]; exact info38s) ?_)
        refine (unhide HC4).mono ?_
        rintro e w5 ⟨cs5, rfl, ho5, hb5⟩
        have hb25 : Below y1.heap.size y1 w5 := (unhide HB4).trans (hb5.mono (unhide HB4).size)
        obtain ⟨hL5, hw5, _⟩ := unhide HLx w5 hb25
        obtain ⟨p5, hp5, rfl, hv5⟩ := ho5.val
        have hbase : base ≤ wr.heap.size := Nat.le_trans (unhide HH).2 (unhide HHL).2.1.size
        have HP := hide (put_any hL5 (unhide HQ).2.1 (Nat.le_trans hbase hw5.size) (hv5.mono (Nat.le_trans hbase (Nat.le_trans (unhide HLx w4 (unhide HB4)).2.1.size (Nat.le_refl _)))) (unhide HQ).2.2.2.2)
        rw [hp5] at HP
        have HW5 := hide hw5
        clear hb25 hL5 hw5 hp5 hv5 hbase hb5 ho5
        go_wp2_with fail
        refine (unhide HP).mono ?_
        rintro e w6 ⟨rfl, v', hL6, hU6, hf6⟩
        obtain ⟨hL, hU, hfr, hsl, htk, hsz⟩ := unhide HHL
        obtain ⟨hq, hi, hqm, hcut, hnf⟩ := unhide HQ
        obtain ⟨hfr', hto'⟩ := unhide HFT
        have hlq : ∀ k, q.own k → k < wr.heap.size := fun k hk => ((hL.pipe q hqm).lt hk).2
        have HG : Hid (SndL ((vs.take (k + 1)).map (·.1)) st (st'.set i { q with v := v', l := q.l ++ [p.1] }) (c + 1) ∧ LInv base w6 P mb (st'.set i { q with v := v', l := q.l ++ [p.1] }) ∧ Upd (Owned st) w w6 ∧ ∀ k, Owned (st'.set i { q with v := v', l := q.l ++ [p.1] }) k → Owned st k ∨ w.heap.size ≤ k) := by
          refine ⟨?_, hL6, ?_, ?_⟩
          · rw [htk]
            exact SndL.snoc hsl (.inl ⟨i, q, v', hi, by rw [hfr', hto']; exact hq, hcut, hnf, hmay, rfl, rfl⟩)
          · refine hU.trans ((Upd.of (S := q.own) (unhide HW5)).trans hU6 (fun _ h => .inl h)) (fun j hj => hfr j ⟨q, hqm, hj⟩)
          · rintro j ⟨q1, hq1, hj⟩
            rcases List.mem_or_eq_of_mem_set hq1 with h | rfl
            · exact hfr j ⟨q1, h, hj⟩
            · rcases hj with hj | hj
              · exact hfr j ⟨q, hqm, .inl hj⟩
              · rcases hf6 j hj with h | h
                · exact hfr j ⟨q, hqm, .inr h⟩
                · exact .inr (Nat.le_trans hU.size (Nat.le_trans (unhide HW5).size h))
        clear hL6 hU6 hf6 hL hU hfr hsl htk hsz hq hi hqm hcut hnf hfr' hto' hlq
        go_wp2
        go_roundw
        case rel => first | exact ⟨k + 1, c + 1, _, by omega, by go_num, by go_num, unhide HG⟩ | ((repeat apply Exists.intro); exact ⟨⟨k + 1, c + 1, _, by omega, rfl, rfl, unhide HG⟩, rfl⟩)
        case measure => simp [intOf]; omega
    · obtain rfl : k = n := by omega
      have HE : Hid (∃ st' c', SndL (vs.map (·.1)) st st' c' ∧ c' = c ∧ LInv base wr P mb st' ∧ Upd (Owned st) w wr ∧ ∀ k, Owned st' k → Owned st k ∨ w.heap.size ≤ k) := ⟨st', c, by rw [List.take_of_length_le (by rw [unhide HN]; exact Nat.le_refl _)] at hsl; exact hsl, rfl, hL, hU, hfr⟩
      clear hsl hL hU hfr
      go_wp2
      go_ret
      obtain ⟨st', c', h1, rfl, h2, h3, h4⟩ := unhide HE
      exact ⟨st', c', rfl, h1, h2, h3, h4⟩
end Go.Proofs.Ytoddemcmmijoaaa
