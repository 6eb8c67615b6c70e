/- Several texts as one. -/
import Derived.Test.YtggllgimlfchhabGreatKD
import Derived.Test.YtggllgimlfchhabGreatCE

/- Record: messageMayBe. -/
namespace Go.Proofs.YtggllgimlfchhabGreat
open Go.RowKit
set_option maxRecDepth 100000

/-- A message in memory, its cells. -/
theorem SeesM.shape {w : World} {cs : Array Value} {m : MsgD} (h : SeesM w cs m) : ∃ (aK aF aO aT aS aL aC : Int) (aY : Bool) (la : Option Addr) (ll lc : Nat) (ek ef en : Int) (ta : Option Addr) (tl tc : Nat) (ps pi pm : Int) (da : Option Addr) (dl dc : Nat),
    cs = #[.int .i64 aK, .int .i64 aF, .int .i64 aO, .int .i64 aT, .int .i64 aS, .int .i64 aL, .int .i64 aC, .bool aY, .slice la ll lc, .int .i64 ek, .int .i64 ef, .int .i64 en, .slice ta tl tc, .int .i64 ps, .int .i64 pi, .int .i64 pm, .slice da dl dc] ∧ m.kind = aK ∧ m.frm = aF ∧ m.to = aO := by
  obtain ⟨_, _, _, rfl, k1, k2, k3⟩ := h
  obtain ⟨la, lc, _, _, rfl, _⟩ := k1
  obtain ⟨ta, tc, _, _, rfl, _⟩ := k2
  obtain ⟨da, dc, rfl, _⟩ := k3
  exact ⟨_, _, _, _, _, _, _, _, _, _, _, _, _, _, _, _, _, _, _, _, _, _, _, rfl, rfl, rfl, rfl⟩
/-- The fields taken out one by one: what is left is to be zero. -/
def runF : List Int → MsgD → Bool
  | [], m => decide (m = ⟨m.kind, m.frm, m.to, 0, 0, 0, 0, false, [], dE, dP⟩)
  | f :: r, m => fMay f m && runF r (wout f m)
def mayMsg (m : MsgD) : Bool := !(fieldsL m.kind).isEmpty && isRep m.frm && isRep m.to && runF (fieldsL m.kind) m
theorem fieldsL_le (k : Int) : ∀ f ∈ fieldsL k, 0 ≤ f ∧ f ≤ 7 := by
  intro f hf
  unfold fieldsL at hf
  split at hf
  · simp at hf; omega
  split at hf
  · simp at hf; omega
  split at hf
  · simp at hf; omega
  split at hf
  · simp at hf; omega
  split at hf
  · simp at hf; omega
  split at hf
  · simp at hf; omega
  · cases hf
theorem fieldsL_len (k : Int) : (fieldsL k).length ≤ 5 := by
  unfold fieldsL
  repeat' split
  all_goals simp
theorem OkM.wout {m : MsgD} (h : OkM m) (f : Int) : OkM (wout f m) := by
  obtain ⟨h1, h2, h3⟩ := h
  unfold Proofs.YtggllgimlfchhabGreat.wout
  repeat' split
  all_goals first | exact ⟨h1, h2, h3⟩ | exact ⟨(fun x hx => by cases hx), h2, h3⟩ | exact ⟨h1, okTs_nil, h3⟩ | exact ⟨h1, h2, fun x hx => by cases hx⟩
def StF (w v : World) (cs : Array Value) (g : Nat) (ob : Obj) : Prop := v.heap[w.heap.size]? = some (.cells cs 30) ∧ v.heap[g]? = some ob ∧ Below w.heap.size w v
theorem rowF {w v : World} {cs cs' : Array Value} {g : Nat} {ob : Obj} (hg : w.heap.size < g) (h : StF w v cs g ob) : StF w (v.setRow w.heap.size cs') cs' g ob :=
  ⟨setRow_heap _ _ _ _ _ _ h.1, (setRow_other _ _ _ _ (by omega)).trans h.2.1, below_setRow h.2.2 (Nat.le_refl _)⟩
set_option maxHeartbeats 800000 in
theorem fieldsOf_at (k : Int) (w : World) : Calls Tryz.prog 66 #[.int .i64 k] w fun e w' => ∃ v, e = .returned v ∧ ((fieldsL k = [] ∧ v = .slice none 0 0) ∨ ∃ g, v = .slice (some ⟨g, 0, none⟩) (fieldsL k).length (fieldsL k).length ∧ w.heap.size ≤ g ∧ w'.heap[g]? = some (.cells ((fieldsL k).map (Value.int .i64)).toArray 109)) ∧ Below w.heap.size w w' := by
  by_cases h1 : k = 1
  case pos =>
    subst h1
    go_enter Tryz.func66, Tryz.ntmps66
    go_wp2
    go_ret
    exact ⟨_, rfl, .inr ⟨_, rfl, Nat.le_refl _, heap_alloc_new w (.cells (([0, 1, 2] : List Int).map (Value.int .i64)).toArray 109)⟩, (Below.refl _ _).alloc (Nat.le_refl _) _⟩
  by_cases h2 : k = 2
  case pos =>
    subst h2
    go_enter Tryz.func66, Tryz.ntmps66
    go_wp2
    go_ret
    exact ⟨_, rfl, .inr ⟨_, rfl, Nat.le_refl _, heap_alloc_new w (.cells (([0, 4] : List Int).map (Value.int .i64)).toArray 109)⟩, (Below.refl _ _).alloc (Nat.le_refl _) _⟩
  by_cases h3 : k = 3
  case pos =>
    subst h3
    go_enter Tryz.func66, Tryz.ntmps66
    go_wp2
    go_ret
    exact ⟨_, rfl, .inr ⟨_, rfl, Nat.le_refl _, heap_alloc_new w (.cells (([0, 1, 2, 3, 5] : List Int).map (Value.int .i64)).toArray 109)⟩, (Below.refl _ _).alloc (Nat.le_refl _) _⟩
  by_cases h4 : k = 4
  case pos =>
    subst h4
    go_enter Tryz.func66, Tryz.ntmps66
    go_wp2
    go_ret
    exact ⟨_, rfl, .inr ⟨_, rfl, Nat.le_refl _, heap_alloc_new w (.cells (([0, 4, 1] : List Int).map (Value.int .i64)).toArray 109)⟩, (Below.refl _ _).alloc (Nat.le_refl _) _⟩
  by_cases h5 : k = 5
  case pos =>
    subst h5
    go_enter Tryz.func66, Tryz.ntmps66
    go_wp2
    go_ret
    exact ⟨_, rfl, .inr ⟨_, rfl, Nat.le_refl _, heap_alloc_new w (.cells (([0, 1, 2, 7] : List Int).map (Value.int .i64)).toArray 109)⟩, (Below.refl _ _).alloc (Nat.le_refl _) _⟩
  by_cases h6 : k = 6
  case pos =>
    subst h6
    go_enter Tryz.func66, Tryz.ntmps66
    go_wp2
    go_ret
    exact ⟨_, rfl, .inr ⟨_, rfl, Nat.le_refl _, heap_alloc_new w (.cells (([6] : List Int).map (Value.int .i64)).toArray 109)⟩, (Below.refl _ _).alloc (Nat.le_refl _) _⟩
  case neg =>
    go_enter Tryz.func66, Tryz.ntmps66
    go_wp2
    go_ret
    refine ⟨_, rfl, .inl ⟨?_, rfl⟩, Below.refl _ _⟩
    simp only [fieldsL, h1, h2, h3, h4, h5, h6, if_false]

set_option maxHeartbeats 3200000 in
theorem messageMayBe_any (cs : Array Value) (m : MsgD) (w : World) (hM : SeesM w cs m) (oM : OkM m) :
    Calls Tryz.prog 32 #[.agg cs] w fun e w' => e = .returned (.bool (mayMsg m)) ∧ Below w.heap.size w w' := by
  have HM := hide hM
  have HOM := hide oM
  obtain ⟨aK, aF, aO, aT, aS, aL, aC, aY, la, ll, lc, ek, ef, en, ta, tl, tc, ps, pi, pm, da, dl, dc, rfl, eK, eF, eO⟩ := hM.shape
  have hMM : mayMsg m = (!(fieldsL aK).isEmpty && isRep aF && isRep aO && runF (fieldsL aK) m) := by unfold mayMsg; rw [eK, eF, eO]
  rw [hMM]
  clear hMM eK eF eO oM hM
  have hB1 : Below w.heap.size w (w.alloc (.cells #[.int .i64 aK, .int .i64 aF, .int .i64 aO, .int .i64 aT, .int .i64 aS, .int .i64 aL, .int .i64 aC, .bool aY, .slice la ll lc, .int .i64 ek, .int .i64 ef, .int .i64 en, .slice ta tl tc, .int .i64 ps, .int .i64 pi, .int .i64 pm, .slice da dl dc] 30)) := (Below.refl _ _).alloc (Nat.le_refl _) _
  have HB1 := hide hB1
  have HF := hide (fieldsOf_at aK (w.alloc (.cells #[.int .i64 aK, .int .i64 aF, .int .i64 aO, .int .i64 aT, .int .i64 aS, .int .i64 aL, .int .i64 aC, .bool aY, .slice la ll lc, .int .i64 ek, .int .i64 ef, .int .i64 en, .slice ta tl tc, .int .i64 ps, .int .i64 pi, .int .i64 pm, .slice da dl dc] 30)))
  have HW1 : Hid ((w.alloc (.cells #[.int .i64 aK, .int .i64 aF, .int .i64 aO, .int .i64 aT, .int .i64 aS, .int .i64 aL, .int .i64 aC, .bool aY, .slice la ll lc, .int .i64 ek, .int .i64 ef, .int .i64 en, .slice ta tl tc, .int .i64 ps, .int .i64 pi, .int .i64 pm, .slice da dl dc] 30)).heap[w.heap.size]? = some (.cells #[.int .i64 aK, .int .i64 aF, .int .i64 aO, .int .i64 aT, .int .i64 aS, .int .i64 aL, .int .i64 aC, .bool aY, .slice la ll lc, .int .i64 ek, .int .i64 ef, .int .i64 en, .slice ta tl tc, .int .i64 ps, .int .i64 pi, .int .i64 pm, .slice da dl dc] 30)) := heap_alloc_new w _
  have HFL := hide (fieldsL_le aK)
  have HFN := hide (fieldsL_len aK)
  obtain ⟨F, hF⟩ : ∃ l, fieldsL aK = l := ⟨_, rfl⟩
  rw [hF] at HF HFL HFN ⊢
  clear hF hB1
  go_enter Tryz.func32, Tryz.ntmps32
  go_wp2_with fail
  refine (unhide HF).mono ?_
  rintro e w1 ⟨v, rfl, hv, hb1⟩
  have hs1 : w.heap.size + 1 ≤ w1.heap.size := by have := hb1.size; simpa using this
  have hx1 : w1.heap[w.heap.size]? = some (.cells #[.int .i64 aK, .int .i64 aF, .int .i64 aO, .int .i64 aT, .int .i64 aS, .int .i64 aL, .int .i64 aC, .bool aY, .slice la ll lc, .int .i64 ek, .int .i64 ef, .int .i64 en, .slice ta tl tc, .int .i64 ps, .int .i64 pi, .int .i64 pm, .slice da dl dc] 30) := (hb1.block _ (by simp)).trans (unhide HW1)
  have HX1 := hide hx1
  have HBa : Hid (Below w.heap.size w w1) := (unhide HB1).trans (hb1.mono (by simp))
  have c0 : w1.cell? ⟨w.heap.size, 0, none⟩ = some (.int .i64 aK) := cell_of_heap hx1
  have c1 : w1.cell? ⟨w.heap.size, 1, none⟩ = some (.int .i64 aF) := cell_of_heap hx1
  have c2 : w1.cell? ⟨w.heap.size, 2, none⟩ = some (.int .i64 aO) := cell_of_heap hx1
  rcases hv with ⟨rfl, rfl⟩ | ⟨g, rfl, hg, hgh⟩
  · clear hb1 hx1
    go_wp2_with fail
    go_ret
    exact ⟨retBool (by simp), unhide HBa⟩
  have hg1 : w.heap.size < g := by simp at hg; omega
  have HG := hide hgh
  clear hb1 hx1 hg hgh HF HB1 HW1
  obtain ⟨n, hn⟩ : ∃ n, F.length = n := ⟨_, rfl⟩
  rw [hn]
  by_cases hn0 : n = 0
  · subst hn0
    obtain rfl : F = [] := List.length_eq_zero_iff.1 hn
    go_wp2_with fail
    go_ret
    exact ⟨retBool (by simp), unhide HBa⟩
  have hne : F.isEmpty = false := by cases F with | nil => exact absurd hn.symm hn0 | cons => rfl
  have HNE := hide hne
  have HN := hide hn
  have hn0b : ((n : Int) == 0) = false := by simpa using hn0
  clear hne hn
  cases h1 : isRep aF with
  | false =>
    go_wp2_with (first | (go_at_call 50; refine (isReplica_any _ _).mono ?_; rintro e w' ⟨rfl, rfl⟩) | fail)
    go_ret
    exact ⟨retBool (by simp [h1]), unhide HBa⟩
  | true =>
  cases h2 : isRep aO with
  | false =>
    go_wp2_with (first | (go_at_call 50; refine (isReplica_any _ _).mono ?_; rintro e w' ⟨rfl, rfl⟩) | fail)
    go_ret
    exact ⟨retBool (by simp [h2]), unhide HBa⟩
  | true =>
  have HH1 := hide h1
  have HH2 := hide h2
  have hn5 : n ≤ 9223372036854775807 := by have := unhide HFN; have := unhide HN; omega
  go_wp2_with (first | (go_at_call 50; refine (isReplica_any _ _).mono ?_; rintro e w' ⟨rfl, rfl⟩) | fail)
  go_loopw [26] (fun c wr => ∃ (t : Nat) (cs' : Array Value) (mt : MsgD), t ≤ n ∧ c = .int .i64 t ∧ StF w wr cs' g (.cells (F.map (Value.int .i64)).toArray 109) ∧ SeesM w cs' mt ∧ OkM mt ∧ runF F m = runF (F.drop t) mt) (fun c _ => n - (intOf c).toNat)
  case atStart => exact ⟨0, _, m, by omega, rfl, ⟨unhide HX1, unhide HG, unhide HBa⟩, unhide HM, unhide HOM, rfl⟩
  case round =>
    clear c0 c1 c2
    obtain ⟨t, cs', mt, ht, rfl, hst, hse, hok, hrun⟩ := hrel
    have HSE := hide hse
    have HRUN := hide hrun
    have HOK := hide hok
    have HST := hide hst
    obtain ⟨baK, baF, baO, baT, baS, baL, baC, baY, bla, bll, blc, bek, bef, ben, bta, btl, btc, bps, bpi, bpm, bda, bdl, bdc, rfl, eK, eF, eO⟩ := hse.shape
    have q0 : wr.cell? ⟨w.heap.size, 0, none⟩ = some (.int .i64 baK) := cell_of_heap hst.1
    have q1 : wr.cell? ⟨w.heap.size, 1, none⟩ = some (.int .i64 baF) := cell_of_heap hst.1
    have q2 : wr.cell? ⟨w.heap.size, 2, none⟩ = some (.int .i64 baO) := cell_of_heap hst.1
    have HXr := hide hst.1
    by_cases hlt : t < n
    · have hltF : t < F.length := by rw [unhide HN]; exact hlt
      obtain ⟨f, hf⟩ : ∃ f, F[t] = f := ⟨_, rfl⟩
      have hcf : wr.cell? ⟨g, 0 + t, none⟩ = some (.int .i64 f) := by
        rw [cell_of_row _ _ _ _ _ _ hst.2.1]
        simp [hltF, hf]
      have hcf' : wr.cell? ⟨g, t, none⟩ = some (.int .i64 f) := by rw [Nat.zero_add] at hcf; exact hcf
      have hfr := unhide HFL f (by rw [← hf]; exact List.getElem_mem hltF)
      have hdr : F.drop t = f :: F.drop (t + 1) := by rw [List.drop_eq_getElem_cons hltF, hf]
      have hrn : runF F m = (fMay f mt && runF (F.drop (t + 1)) (wout f mt)) := by rw [hrun, hdr, runF]
      have HRN := hide hrn
      have HFM := hide (fieldMayBe_any _ mt f wr (hse.below hst.2.2) hok hfr.1 hfr.2)
      have HWO : Hid (∀ x, Below wr.heap.size wr x → Calls Tryz.prog 68 #[.agg #[.int .i64 baK, .int .i64 baF, .int .i64 baO, .int .i64 baT, .int .i64 baS, .int .i64 baL, .int .i64 baC, .bool baY, .slice bla bll blc, .int .i64 bek, .int .i64 bef, .int .i64 ben, .slice bta btl btc, .int .i64 bps, .int .i64 bpi, .int .i64 bpm, .slice bda bdl bdc], .int .i64 f] x fun e w' => ∃ cs', e = .returned (.agg cs') ∧ (∀ w0, SeesM w0 #[.int .i64 baK, .int .i64 baF, .int .i64 baO, .int .i64 baT, .int .i64 baS, .int .i64 baL, .int .i64 baC, .bool baY, .slice bla bll blc, .int .i64 bek, .int .i64 bef, .int .i64 ben, .slice bta btl btc, .int .i64 bps, .int .i64 bpi, .int .i64 bpm, .slice bda bdl bdc] mt → SeesM w0 cs' (wout f mt)) ∧ Below x.heap.size x w') := fun x hx => without_any _ mt f x ((hse.below hst.2.2).below hx) hfr.1 hfr.2
      clear hst hse hok hrun hdr hrn hfr hf eK eF eO HRUN
      go_wp2_with (refine wpList_load_row rfl 30 _ rfl w.heap.size rfl 30 _ (0, 0) _ (unhide HXr) Tryz.underlying30 rfl (by kernel_rfl) ?_)
      refine (unhide HFM).mono ?_
      rintro e w2 ⟨rfl, hb2⟩
      have HB2 := hide hb2
      cases hmy : fMay f mt with
      | false =>
        have hfin : runF F m = false := by rw [unhide HRN, hmy]; rfl
        have HB9 : Hid (Below w.heap.size w w2) := (unhide HST).2.2.trans (hb2.mono (unhide HST).2.2.size)
        clear hb2 HFM
        go_wp2_with fail
        go_ret
        exact ⟨retBool (by rw [unhide HNE, unhide HH1, unhide HH2, hfin]; rfl), unhide HB9⟩
      | true =>
        have hx2 : w2.heap[w.heap.size]? = some (.cells #[.int .i64 baK, .int .i64 baF, .int .i64 baO, .int .i64 baT, .int .i64 baS, .int .i64 baL, .int .i64 baC, .bool baY, .slice bla bll blc, .int .i64 bek, .int .i64 bef, .int .i64 ben, .slice bta btl btc, .int .i64 bps, .int .i64 bpi, .int .i64 bpm, .slice bda bdl bdc] 30) := (hb2.block _ (by have := (Array.getElem?_eq_some_iff.1 (unhide HST).1).1; exact this)).trans (unhide HST).1
        have HX2 := hide hx2
        have hrn2 : runF F m = runF (F.drop (t + 1)) (wout f mt) := by rw [unhide HRN, hmy, Bool.true_and]
        have HRN2 := hide hrn2
        clear hb2 HFM hrn2 HRN
        go_wp2_with (refine wpList_load_row rfl 30 _ rfl w.heap.size rfl 30 _ (0, 0) _ (unhide HX2) Tryz.underlying30 rfl (by kernel_rfl) ?_)
        refine (unhide HWO w2 (unhide HB2)).mono ?_
        rintro e w3 ⟨cs3, rfl, hp3, hb3⟩
        have hse3 := hp3 w (unhide HSE)
        have HSE3 := hide hse3
        obtain ⟨caK, caF, caO, caT, caS, caL, caC, caY, cla, cll, clc, cek, cef, cen, cta, ctl, ctc, cps, cpi, cpm, cda, cdl, cdc, rfl, eK, eF, eO⟩ := hse3.shape
        have hst3 : StF w w3 #[.int .i64 baK, .int .i64 baF, .int .i64 baO, .int .i64 baT, .int .i64 baS, .int .i64 baL, .int .i64 baC, .bool baY, .slice bla bll blc, .int .i64 bek, .int .i64 bef, .int .i64 ben, .slice bta btl btc, .int .i64 bps, .int .i64 bpi, .int .i64 bpm, .slice bda bdl bdc] g (.cells (F.map (Value.int .i64)).toArray 109) := by
          have s2 := (unhide HB2).size
          refine ⟨(hb3.block _ ?_).trans hx2, (hb3.block _ ?_).trans (((unhide HB2).block _ ?_).trans (unhide HST).2.1), ((unhide HST).2.2.trans ((unhide HB2).mono (unhide HST).2.2.size)).trans (hb3.mono (Nat.le_trans (unhide HST).2.2.size s2))⟩
          · exact (Array.getElem?_eq_some_iff.1 hx2).1
          · have := (Array.getElem?_eq_some_iff.1 (unhide HST).2.1).1; omega
          · exact (Array.getElem?_eq_some_iff.1 (unhide HST).2.1).1
        have HX3 := hide hst3.1
        have h9 : StF w (w3.setRow w.heap.size #[.int .i64 caK, .int .i64 caF, .int .i64 caO, .int .i64 caT, .int .i64 caS, .int .i64 caL, .int .i64 caC, .bool caY, .slice cla cll clc, .int .i64 cek, .int .i64 cef, .int .i64 cen, .slice cta ctl ctc, .int .i64 cps, .int .i64 cpi, .int .i64 cpm, .slice cda cdl cdc]) #[.int .i64 caK, .int .i64 caF, .int .i64 caO, .int .i64 caT, .int .i64 caS, .int .i64 caL, .int .i64 caC, .bool caY, .slice cla cll clc, .int .i64 cek, .int .i64 cef, .int .i64 cen, .slice cta ctl ctc, .int .i64 cps, .int .i64 cpi, .int .i64 cpm, .slice cda cdl cdc] g (.cells (F.map (Value.int .i64)).toArray 109) := rowF hg1 hst3
        obtain ⟨y9, hy9⟩ : ∃ y, (w3.setRow w.heap.size #[.int .i64 caK, .int .i64 caF, .int .i64 caO, .int .i64 caT, .int .i64 caS, .int .i64 caL, .int .i64 caC, .bool caY, .slice cla cll clc, .int .i64 cek, .int .i64 cef, .int .i64 cen, .slice cta ctl ctc, .int .i64 cps, .int .i64 cpi, .int .i64 cpm, .slice cda cdl cdc]) = y := ⟨_, rfl⟩
        rw [hy9] at h9
        have H9 := hide h9
        clear h9 hst3 hx2 hp3 hb3 hse3 eK eF eO
        go_wp2_with (first | rw [hy9] | refine wpList_store_row rfl 30 _ _ rfl w.heap.size _ _ rfl rfl 30 (unhide HX3) (by kernel_rfl) rfl (by first | kernel_rfl | simp [Value.oneCell']) ?_)
        go_roundw
        case rel => exact ⟨t + 1, _, wout f mt, by omega, by go_num, unhide H9, unhide HSE3, (unhide HOK).wout f, unhide HRN2⟩
        case measure => simp [intOf]; omega
    · obtain rfl : n = t := by omega
      have hdr : F.drop n = [] := List.drop_eq_nil_of_le (by rw [unhide HN]; exact Nat.le_refl _)
      have hrn : runF F m = decide (mt = ⟨mt.kind, mt.frm, mt.to, 0, 0, 0, 0, false, [], dE, dP⟩) := by rw [hrun, hdr, runF]
      have HSM := hide (sameMsg_any _ #[.int .i64 baK, .int .i64 baF, .int .i64 baO, .int .i64 0, .int .i64 0, .int .i64 0, .int .i64 0, .bool false, .slice none 0 0, .int .i64 0, .int .i64 0, .int .i64 0, .slice none 0 0, .int .i64 0, .int .i64 0, .int .i64 0, .slice none 0 0] mt ⟨mt.kind, mt.frm, mt.to, 0, 0, 0, 0, false, [], dE, dP⟩ wr (hse.below hst.2.2) ⟨.slice none 0 0, .slice none 0 0, .slice none 0 0, by rw [eK, eF, eO]; rfl, SeesTms.nil _, SeesTs.nil _, Sees.nil _ _⟩ hok ⟨(fun x hx => by cases hx), okTs_nil, fun x hx => by cases hx⟩)
      rw [← hrn] at HSM
      have HB8 := hide hst.2.2
      clear hst hse hok hrun hdr hrn eK eF eO HRUN
      go_wp2_with (refine wpList_load_row rfl 30 _ rfl w.heap.size rfl 30 _ (0, 0) _ (unhide HXr) Tryz.underlying30 rfl (by kernel_rfl) ?_)
      refine (unhide HSM).mono ?_
      rintro e w2 ⟨rfl, hb2⟩
      have HB9 : Hid (Below w.heap.size w w2) := (unhide HB8).trans (hb2.mono (unhide HB8).size)
      clear hb2 HSM
      go_wp2_with fail
      go_ret
      exact ⟨retBool (by rw [unhide HNE, unhide HH1, unhide HH2]; simp), unhide HB9⟩
end Go.Proofs.YtggllgimlfchhabGreat

/- Record: the document's MayMsg. -/
namespace Go.Proofs.YtggllgimlfchhabGreat
open Go.RowKit
set_option maxRecDepth 100000

/-- A whole variable loaded, where the guard is met. -/
theorem wpList_load_wanted {P : Program} {ops : Array Oper} {rest : List Oper} {o : Oper} {a : Act} {w : World} {Q : Exit → Act → World → Prop} (hw : Region.wanted o (yielded ops a.tmps) = true) (ty : TypeId) (x : Operand) (ho : o.op = .load ty x)
    (g : Nat) (hx : a.eval x = .pointer (some ⟨g, 0, none⟩)) (t : TypeId) (cs : Array Value) (fr : Nat × Nat) (d : TypeDesc) (hg : w.heap[g]? = some (.cells cs t fr))
    (hu : P.underlying ty = some d) (hd : (match d with | .struct _ | .array _ _ => true | _ => false) = true) (hi : (P.info? ty).map (·.size) = some cs.size)
    (h : wpList P ops Q rest (a.put o.dst (.agg cs)) w) : wpList P ops Q (o :: rest) a w := by
  unfold wpList
  rw [if_pos hw]
  exact Or.inl (wp_load_row ty x ho g hx t cs fr d hg hu hd hi h)
theorem plain_any (cs : Array Value) (m : MsgD) (w : World) (hM : SeesM w cs m) (h1 : 1 ≤ m.kind) (h6 : m.kind ≤ 6) :
    Calls Tryz.prog 40 #[.agg cs] w fun e w' => ∃ cs', e = .returned (.tuple #[.agg cs', .bool true]) ∧ SeesM w' cs' (plainM m) ∧ Below w.heap.size w w' := by
  by_cases k1 : m.kind = 1
  case pos =>
    have e : plainM m = ⟨m.kind, m.frm, m.to, m.term, m.slot, m.last, 0, false, [], dE, dP⟩ := by simp [plainM, k1]
    rw [e]
    exact plain1_any cs m w hM k1
  by_cases k2 : m.kind = 2
  case pos =>
    have e : plainM m = ⟨m.kind, m.frm, m.to, m.term, 0, 0, 0, m.yes, [], dE, dP⟩ := by simp [plainM, k2]
    rw [e]
    exact plain2_any cs m w hM k2
  by_cases k3 : m.kind = 3
  case pos =>
    have e : plainM m = ⟨m.kind, m.frm, m.to, m.term, m.slot, m.last, m.commit, false, m.list, dE, dP⟩ := by simp [plainM, k3]
    rw [e]
    exact plain3_any cs m w hM k3
  by_cases k4 : m.kind = 4
  case pos =>
    have e : plainM m = ⟨m.kind, m.frm, m.to, m.term, m.slot, 0, 0, m.yes, [], dE, dP⟩ := by simp [plainM, k4]
    rw [e]
    exact plain4_any cs m w hM k4
  by_cases k5 : m.kind = 5
  case pos =>
    have e : plainM m = ⟨m.kind, m.frm, m.to, m.term, m.slot, m.last, 0, false, [], dE, m.part⟩ := by simp [plainM, k5]
    rw [e]
    exact plain5_any cs m w hM k5
  by_cases k6 : m.kind = 6
  case pos =>
    have e : plainM m = ⟨m.kind, m.frm, m.to, 0, 0, 0, 0, false, [], m.ent, dP⟩ := by simp [plainM, k6]
    rw [e]
    exact plain6_any cs m w hM k6
  omega
/-- What a message of its kind has besides is to be, too. -/
def tailM (m : MsgD) : Bool := if m.kind = 3 then decide (m.list.length ≤ 4096) && m.list.all mayTm else if m.kind = 6 then mayE m.ent else if m.kind = 5 then mayP m.part else true
def refMay (m : MsgD) : Bool := decide (1 ≤ m.kind ∧ m.kind ≤ 6) && decide (m = plainM m) && isRep m.frm && isRep m.to && isCnt m.term && isCnt m.slot && isCnt m.last && isCnt m.commit && tailM m

set_option maxHeartbeats 3200000 in
theorem mayMsg_any (cs : Array Value) (m : MsgD) (w : World) (hM : SeesM w cs m) (oM : OkM m) (oP : OkM (plainM m)) :
    Calls Tryz.prog 14 #[.agg cs] w fun e w' => e = .returned (.bool (refMay m)) ∧ Below w.heap.size w w' := by
  have HM := hide hM
  have HOM := hide oM
  have HOP := hide oP
  have HPL : Hid (1 ≤ m.kind → m.kind ≤ 6 → ∀ x, Below w.heap.size w x → Calls Tryz.prog 40 #[.agg cs] x fun e w' => ∃ cs', e = .returned (.tuple #[.agg cs', .bool true]) ∧ SeesM w' cs' (plainM m) ∧ Below x.heap.size x w') := fun h1 h6 x hx => plain_any cs m x (hM.below hx) h1 h6
  have HPD : Hid ((m.kind ≠ 1 ∧ m.kind ≠ 2 ∧ m.kind ≠ 3 ∧ m.kind ≠ 4 ∧ m.kind ≠ 5 ∧ m.kind ≠ 6) → ∀ x, Below w.heap.size w x → Calls Tryz.prog 40 #[.agg cs] x fun e w' => ∃ cs', e = .returned (.tuple #[.agg cs', .bool false]) ∧ SeesM w' cs' ⟨m.kind, m.frm, m.to, m.term, 0, 0, 0, false, [], dE, dP⟩ ∧ Below x.heap.size x w') := fun h x hx => plainD_any cs m x (hM.below hx) h
  obtain ⟨RR, hRR⟩ : ∃ b, refMay m = b := ⟨_, rfl⟩
  rw [hRR]
  have HRR := hide hRR
  clear hRR oM oP
  have hL : ∃ lv tv dv, cs = #[.int .i64 m.kind, .int .i64 m.frm, .int .i64 m.to, .int .i64 m.term, .int .i64 m.slot, .int .i64 m.last, .int .i64 m.commit, .bool m.yes, lv, .int .i64 m.ent.kind, .int .i64 m.ent.frm, .int .i64 m.ent.num, tv, .int .i64 m.part.slot, .int .i64 m.part.idx, .int .i64 m.part.many, dv] ∧ SeesTms w lv m.list ∧ SeesTs w tv m.ent.txns ∧ Sees w .u8 dv m.part.data := hM
  obtain ⟨lv, tv, dv, rfl, k1, k2, k3⟩ := hL
  have K1 := hide k1
  have K2 : Hid (SeesE w #[.int .i64 m.ent.kind, .int .i64 m.ent.frm, .int .i64 m.ent.num, tv] m.ent) := ⟨_, rfl, k2⟩
  have K3 : Hid (SeesP w #[.int .i64 m.part.slot, .int .i64 m.part.idx, .int .i64 m.part.many, dv] m.part) := ⟨_, rfl, k3⟩
  obtain ⟨la, lc, _, _, rfl, _⟩ := k1
  obtain ⟨ta, tc, _, _, rfl, _⟩ := k2
  obtain ⟨da, dc, rfl, _⟩ := k3
  obtain ⟨aK, EaK⟩ : ∃ x, m.kind = x := ⟨_, rfl⟩
  obtain ⟨aF, EaF⟩ : ∃ x, m.frm = x := ⟨_, rfl⟩
  obtain ⟨aO, EaO⟩ : ∃ x, m.to = x := ⟨_, rfl⟩
  obtain ⟨aT, EaT⟩ : ∃ x, m.term = x := ⟨_, rfl⟩
  obtain ⟨aS, EaS⟩ : ∃ x, m.slot = x := ⟨_, rfl⟩
  obtain ⟨aL, EaL⟩ : ∃ x, m.last = x := ⟨_, rfl⟩
  obtain ⟨aC, EaC⟩ : ∃ x, m.commit = x := ⟨_, rfl⟩
  obtain ⟨aY, EaY⟩ : ∃ x, m.yes = x := ⟨_, rfl⟩
  obtain ⟨ll, Ell⟩ : ∃ x, m.list.length = x := ⟨_, rfl⟩
  obtain ⟨ek, Eek⟩ : ∃ x, m.ent.kind = x := ⟨_, rfl⟩
  obtain ⟨ef, Eef⟩ : ∃ x, m.ent.frm = x := ⟨_, rfl⟩
  obtain ⟨en, Een⟩ : ∃ x, m.ent.num = x := ⟨_, rfl⟩
  obtain ⟨tl, Etl⟩ : ∃ x, m.ent.txns.length = x := ⟨_, rfl⟩
  obtain ⟨ps, Eps⟩ : ∃ x, m.part.slot = x := ⟨_, rfl⟩
  obtain ⟨pi, Epi⟩ : ∃ x, m.part.idx = x := ⟨_, rfl⟩
  obtain ⟨pm, Epm⟩ : ∃ x, m.part.many = x := ⟨_, rfl⟩
  obtain ⟨dl, Edl⟩ : ∃ x, m.part.data.length = x := ⟨_, rfl⟩
  simp only [EaK, EaF, EaO, EaT, EaS, EaL, EaC, EaY, Ell, Eek, Eef, Een, Etl, Eps, Epi, Epm, Edl] at HM HPL HPD ⊢
  rw [Ell] at K1
  simp only [Eek, Eef, Een, Etl] at K2
  simp only [Eps, Epi, Epm, Edl] at K3
  have hR : refMay m = (decide (1 ≤ aK ∧ aK ≤ 6) && decide (m = plainM m) && isRep aF && isRep aO && isCnt aT && isCnt aS && isCnt aL && isCnt aC && (if aK = 3 then decide (m.list.length ≤ 4096) && m.list.all mayTm else if aK = 6 then mayE m.ent else if aK = 5 then mayP m.part else true)) := by
    unfold refMay tailM; rw [EaK, EaF, EaO, EaT, EaS, EaL, EaC]
  rw [unhide HRR] at hR
  have HR := hide hR
  clear hR hM EaK EaF EaO EaT EaS EaL EaC EaY Ell Eek Eef Een Etl Eps Epi Epm Edl
  have hB1 : Below w.heap.size w (w.alloc (.cells #[.int .i64 aK, .int .i64 aF, .int .i64 aO, .int .i64 aT, .int .i64 aS, .int .i64 aL, .int .i64 aC, .bool aY, .slice la ll lc, .int .i64 ek, .int .i64 ef, .int .i64 en, .slice ta tl tc, .int .i64 ps, .int .i64 pi, .int .i64 pm, .slice da dl dc] 30)) := (Below.refl _ _).alloc (Nat.le_refl _) _
  have HB1 := hide hB1
  have HW1 : Hid ((w.alloc (.cells #[.int .i64 aK, .int .i64 aF, .int .i64 aO, .int .i64 aT, .int .i64 aS, .int .i64 aL, .int .i64 aC, .bool aY, .slice la ll lc, .int .i64 ek, .int .i64 ef, .int .i64 en, .slice ta tl tc, .int .i64 ps, .int .i64 pi, .int .i64 pm, .slice da dl dc] 30)).heap[w.heap.size]? = some (.cells #[.int .i64 aK, .int .i64 aF, .int .i64 aO, .int .i64 aT, .int .i64 aS, .int .i64 aL, .int .i64 aC, .bool aY, .slice la ll lc, .int .i64 ek, .int .i64 ef, .int .i64 en, .slice ta tl tc, .int .i64 ps, .int .i64 pi, .int .i64 pm, .slice da dl dc] 30)) := heap_alloc_new w _
  clear hB1
  obtain ⟨w1, hw1⟩ : ∃ y, w.alloc (.cells #[.int .i64 aK, .int .i64 aF, .int .i64 aO, .int .i64 aT, .int .i64 aS, .int .i64 aL, .int .i64 aC, .bool aY, .slice la ll lc, .int .i64 ek, .int .i64 ef, .int .i64 en, .slice ta tl tc, .int .i64 ps, .int .i64 pi, .int .i64 pm, .slice da dl dc] 30) = y := ⟨_, rfl⟩
  rw [hw1] at HB1 HW1
  by_cases hk : 1 ≤ aK ∧ aK ≤ 6
  case neg =>
    have HC := hide (unhide HPD ⟨by omega, by omega, by omega, by omega, by omega, by omega⟩ _ (unhide HB1))
    clear HPL HPD
    go_enter Tryz.func14, Tryz.ntmps14
    go_wp2_with (first | rw [hw1] | refine wpList_load_wanted (by rfl) 30 _ rfl w.heap.size rfl 30 _ (0, 0) _ (unhide HW1) Tryz.underlying30 rfl (by kernel_rfl) ?_)
    refine (unhide HC).mono ?_
    rintro e w2 ⟨cx, rfl, hsx, hb2⟩
    obtain ⟨xaK, xaF, xaO, xaT, xaS, xaL, xaC, xaY, xla, xll, xlc, xek, xef, xen, xta, xtl, xtc, xps, xpi, xpm, xda, xdl, xdc, rfl, _, _, _⟩ := hsx.shape
    have HZa : Hid ((w2.alloc (.cells #[.int .i64 0, .int .i64 0, .int .i64 0, .int .i64 0, .int .i64 0, .int .i64 0, .int .i64 0, .bool false, .slice none 0 0, .int .i64 0, .int .i64 0, .int .i64 0, .slice none 0 0, .int .i64 0, .int .i64 0, .int .i64 0, .slice none 0 0] 30)).heap[w2.heap.size]? = some (.cells #[.int .i64 0, .int .i64 0, .int .i64 0, .int .i64 0, .int .i64 0, .int .i64 0, .int .i64 0, .bool false, .slice none 0 0, .int .i64 0, .int .i64 0, .int .i64 0, .slice none 0 0, .int .i64 0, .int .i64 0, .int .i64 0, .slice none 0 0] 30)) := heap_alloc_new w2 _
    have HB9 : Hid (Below w.heap.size w ((w2.alloc (.cells #[.int .i64 0, .int .i64 0, .int .i64 0, .int .i64 0, .int .i64 0, .int .i64 0, .int .i64 0, .bool false, .slice none 0 0, .int .i64 0, .int .i64 0, .int .i64 0, .slice none 0 0, .int .i64 0, .int .i64 0, .int .i64 0, .slice none 0 0] 30)).setRow w2.heap.size #[.int .i64 xaK, .int .i64 xaF, .int .i64 xaO, .int .i64 xaT, .int .i64 xaS, .int .i64 xaL, .int .i64 xaC, .bool xaY, .slice xla xll xlc, .int .i64 xek, .int .i64 xef, .int .i64 xen, .slice xta xtl xtc, .int .i64 xps, .int .i64 xpi, .int .i64 xpm, .slice xda xdl xdc])) := below_setRow (((unhide HB1).trans (hb2.mono (unhide HB1).size)).alloc (Nat.le_trans (unhide HB1).size hb2.size) _) (Nat.le_trans (unhide HB1).size hb2.size)
    obtain ⟨wa, hwa⟩ : ∃ y, (w2.alloc (.cells #[.int .i64 0, .int .i64 0, .int .i64 0, .int .i64 0, .int .i64 0, .int .i64 0, .int .i64 0, .bool false, .slice none 0 0, .int .i64 0, .int .i64 0, .int .i64 0, .slice none 0 0, .int .i64 0, .int .i64 0, .int .i64 0, .slice none 0 0] 30)) = y := ⟨_, rfl⟩
    rw [hwa] at HZa HB9
    obtain ⟨w3, hw3⟩ : ∃ y, wa.setRow w2.heap.size #[.int .i64 xaK, .int .i64 xaF, .int .i64 xaO, .int .i64 xaT, .int .i64 xaS, .int .i64 xaL, .int .i64 xaC, .bool xaY, .slice xla xll xlc, .int .i64 xek, .int .i64 xef, .int .i64 xen, .slice xta xtl xtc, .int .i64 xps, .int .i64 xpi, .int .i64 xpm, .slice xda xdl xdc] = y := ⟨_, rfl⟩
    rw [hw3] at HB9
    clear hb2 hsx
    go_wp2_with (first | rw [hw3] | rw [hwa] | refine wpList_store_row rfl 30 _ _ rfl w2.heap.size _ _ rfl rfl 30 (unhide HZa) (by kernel_rfl) rfl (by first | kernel_rfl | simp [Value.oneCell']) ?_)
    go_ret
    exact ⟨retBool (by rw [unhide HR, decide_eq_false hk]; simp), unhide HB9⟩
  case pos =>
  have HC := hide (unhide HPL hk.1 hk.2 _ (unhide HB1))
  clear HPL HPD
  go_enter Tryz.func14, Tryz.ntmps14
  go_wp2_with (first | rw [hw1] | refine wpList_load_wanted (by rfl) 30 _ rfl w.heap.size rfl 30 _ (0, 0) _ (unhide HW1) Tryz.underlying30 rfl (by kernel_rfl) ?_)
  refine (unhide HC).mono ?_
  rintro e w2 ⟨cx, rfl, hsx, hb2⟩
  have HSX := hide hsx
  obtain ⟨xaK, xaF, xaO, xaT, xaS, xaL, xaC, xaY, xla, xll, xlc, xek, xef, xen, xta, xtl, xtc, xps, xpi, xpm, xda, xdl, xdc, rfl, _, _, _⟩ := hsx.shape
  have hx2 : w2.heap[w.heap.size]? = some (.cells #[.int .i64 aK, .int .i64 aF, .int .i64 aO, .int .i64 aT, .int .i64 aS, .int .i64 aL, .int .i64 aC, .bool aY, .slice la ll lc, .int .i64 ek, .int .i64 ef, .int .i64 en, .slice ta tl tc, .int .i64 ps, .int .i64 pi, .int .i64 pm, .slice da dl dc] 30) := (hb2.block _ (Array.getElem?_eq_some_iff.1 (unhide HW1)).1).trans (unhide HW1)
  have hB2 : Below w.heap.size w w2 := (unhide HB1).trans (hb2.mono (unhide HB1).size)
  have hne : w.heap.size < w2.heap.size := (Array.getElem?_eq_some_iff.1 hx2).1
  have HZa : Hid ((w2.alloc (.cells #[.int .i64 0, .int .i64 0, .int .i64 0, .int .i64 0, .int .i64 0, .int .i64 0, .int .i64 0, .bool false, .slice none 0 0, .int .i64 0, .int .i64 0, .int .i64 0, .slice none 0 0, .int .i64 0, .int .i64 0, .int .i64 0, .slice none 0 0] 30)).heap[w2.heap.size]? = some (.cells #[.int .i64 0, .int .i64 0, .int .i64 0, .int .i64 0, .int .i64 0, .int .i64 0, .int .i64 0, .bool false, .slice none 0 0, .int .i64 0, .int .i64 0, .int .i64 0, .slice none 0 0, .int .i64 0, .int .i64 0, .int .i64 0, .slice none 0 0] 30)) := heap_alloc_new w2 _
  have hal : Below w2.heap.size w2 ((w2.alloc (.cells #[.int .i64 0, .int .i64 0, .int .i64 0, .int .i64 0, .int .i64 0, .int .i64 0, .int .i64 0, .bool false, .slice none 0 0, .int .i64 0, .int .i64 0, .int .i64 0, .slice none 0 0, .int .i64 0, .int .i64 0, .int .i64 0, .slice none 0 0] 30)).setRow w2.heap.size #[.int .i64 xaK, .int .i64 xaF, .int .i64 xaO, .int .i64 xaT, .int .i64 xaS, .int .i64 xaL, .int .i64 xaC, .bool xaY, .slice xla xll xlc, .int .i64 xek, .int .i64 xef, .int .i64 xen, .slice xta xtl xtc, .int .i64 xps, .int .i64 xpi, .int .i64 xpm, .slice xda xdl xdc]) := below_setRow ((Below.refl _ _).alloc (Nat.le_refl _) _) (Nat.le_refl _)
  have hx3 : ((w2.alloc (.cells #[.int .i64 0, .int .i64 0, .int .i64 0, .int .i64 0, .int .i64 0, .int .i64 0, .int .i64 0, .bool false, .slice none 0 0, .int .i64 0, .int .i64 0, .int .i64 0, .slice none 0 0, .int .i64 0, .int .i64 0, .int .i64 0, .slice none 0 0] 30)).setRow w2.heap.size #[.int .i64 xaK, .int .i64 xaF, .int .i64 xaO, .int .i64 xaT, .int .i64 xaS, .int .i64 xaL, .int .i64 xaC, .bool xaY, .slice xla xll xlc, .int .i64 xek, .int .i64 xef, .int .i64 xen, .slice xta xtl xtc, .int .i64 xps, .int .i64 xpi, .int .i64 xpm, .slice xda xdl xdc]).heap[w.heap.size]? = some (.cells #[.int .i64 aK, .int .i64 aF, .int .i64 aO, .int .i64 aT, .int .i64 aS, .int .i64 aL, .int .i64 aC, .bool aY, .slice la ll lc, .int .i64 ek, .int .i64 ef, .int .i64 en, .slice ta tl tc, .int .i64 ps, .int .i64 pi, .int .i64 pm, .slice da dl dc] 30) := (setRow_other _ _ _ _ (by omega)).trans ((Below.heap_alloc _ _ _ hne).trans hx2)
  have hz3 : ((w2.alloc (.cells #[.int .i64 0, .int .i64 0, .int .i64 0, .int .i64 0, .int .i64 0, .int .i64 0, .int .i64 0, .bool false, .slice none 0 0, .int .i64 0, .int .i64 0, .int .i64 0, .slice none 0 0, .int .i64 0, .int .i64 0, .int .i64 0, .slice none 0 0] 30)).setRow w2.heap.size #[.int .i64 xaK, .int .i64 xaF, .int .i64 xaO, .int .i64 xaT, .int .i64 xaS, .int .i64 xaL, .int .i64 xaC, .bool xaY, .slice xla xll xlc, .int .i64 xek, .int .i64 xef, .int .i64 xen, .slice xta xtl xtc, .int .i64 xps, .int .i64 xpi, .int .i64 xpm, .slice xda xdl xdc]).heap[w2.heap.size]? = some (.cells #[.int .i64 xaK, .int .i64 xaF, .int .i64 xaO, .int .i64 xaT, .int .i64 xaS, .int .i64 xaL, .int .i64 xaC, .bool xaY, .slice xla xll xlc, .int .i64 xek, .int .i64 xef, .int .i64 xen, .slice xta xtl xtc, .int .i64 xps, .int .i64 xpi, .int .i64 xpm, .slice xda xdl xdc] 30) := setRow_heap _ _ _ _ _ _ (unhide HZa)
  obtain ⟨wa, hwa⟩ : ∃ y, (w2.alloc (.cells #[.int .i64 0, .int .i64 0, .int .i64 0, .int .i64 0, .int .i64 0, .int .i64 0, .int .i64 0, .bool false, .slice none 0 0, .int .i64 0, .int .i64 0, .int .i64 0, .slice none 0 0, .int .i64 0, .int .i64 0, .int .i64 0, .slice none 0 0] 30)) = y := ⟨_, rfl⟩
  rw [hwa] at HZa hal hx3 hz3
  obtain ⟨w3, hw3⟩ : ∃ y, wa.setRow w2.heap.size #[.int .i64 xaK, .int .i64 xaF, .int .i64 xaO, .int .i64 xaT, .int .i64 xaS, .int .i64 xaL, .int .i64 xaC, .bool xaY, .slice xla xll xlc, .int .i64 xek, .int .i64 xef, .int .i64 xen, .slice xta xtl xtc, .int .i64 xps, .int .i64 xpi, .int .i64 xpm, .slice xda xdl xdc] = y := ⟨_, rfl⟩
  rw [hw3] at hal hx3 hz3
  have hB3 : Below w.heap.size w w3 := hB2.trans (hal.mono hB2.size)
  have HSM := hide (refSameMsg_any _ _ m (plainM m) w3 ((unhide HM).below hB3) ((unhide HSX).below hal) (unhide HOM) (unhide HOP))
  have HX3 := hide hx3
  have HZ3 := hide hz3
  have HB3 := hide hB3
  clear hB3 hx3 hz3 hal hB2 hx2 hb2 hsx HC HSX hne
  go_wp2_with (first | rw [hw3] | rw [hwa] | refine wpList_store_row rfl 30 _ _ rfl w2.heap.size _ _ rfl rfl 30 (unhide HZa) (by kernel_rfl) rfl (by first | kernel_rfl | simp [Value.oneCell']) ?_ | refine wpList_load_wanted (by rfl) 30 _ rfl w.heap.size rfl 30 _ (0, 0) _ (unhide HX3) Tryz.underlying30 rfl (by kernel_rfl) ?_ | refine wpList_load_wanted (by rfl) 30 _ rfl w2.heap.size rfl 30 _ (0, 0) _ (unhide HZ3) Tryz.underlying30 rfl (by kernel_rfl) ?_)
  refine (unhide HSM).mono ?_
  rintro e w4 ⟨rfl, hb4⟩
  have hx4 : w4.heap[w.heap.size]? = some (.cells #[.int .i64 aK, .int .i64 aF, .int .i64 aO, .int .i64 aT, .int .i64 aS, .int .i64 aL, .int .i64 aC, .bool aY, .slice la ll lc, .int .i64 ek, .int .i64 ef, .int .i64 en, .slice ta tl tc, .int .i64 ps, .int .i64 pi, .int .i64 pm, .slice da dl dc] 30) := (hb4.block _ (Array.getElem?_eq_some_iff.1 (unhide HX3)).1).trans (unhide HX3)
  have hB4 : Below w.heap.size w w4 := (unhide HB3).trans (hb4.mono (unhide HB3).size)
  have HB4 := hide hB4
  clear HSM hb4
  have c0 : w4.cell? ⟨w.heap.size, 0, none⟩ = some (.int .i64 aK) := cell_of_heap hx4
  have c1 : w4.cell? ⟨w.heap.size, 1, none⟩ = some (.int .i64 aF) := cell_of_heap hx4
  have c2 : w4.cell? ⟨w.heap.size, 2, none⟩ = some (.int .i64 aO) := cell_of_heap hx4
  have c3 : w4.cell? ⟨w.heap.size, 3, none⟩ = some (.int .i64 aT) := cell_of_heap hx4
  have c4 : w4.cell? ⟨w.heap.size, 4, none⟩ = some (.int .i64 aS) := cell_of_heap hx4
  have c5 : w4.cell? ⟨w.heap.size, 5, none⟩ = some (.int .i64 aL) := cell_of_heap hx4
  have c6 : w4.cell? ⟨w.heap.size, 6, none⟩ = some (.int .i64 aC) := cell_of_heap hx4
  have c7 : w4.cell? ⟨w.heap.size, 7, none⟩ = some (.bool aY) := cell_of_heap hx4
  have c8 : w4.cell? ⟨w.heap.size, 8, none⟩ = some (.slice la ll lc) := cell_of_heap hx4
  have c9 : w4.cell? ⟨w.heap.size, 9, none⟩ = some (.int .i64 ek) := cell_of_heap hx4
  have c10 : w4.cell? ⟨w.heap.size, 10, none⟩ = some (.int .i64 ef) := cell_of_heap hx4
  have c11 : w4.cell? ⟨w.heap.size, 11, none⟩ = some (.int .i64 en) := cell_of_heap hx4
  have c12 : w4.cell? ⟨w.heap.size, 12, none⟩ = some (.slice ta tl tc) := cell_of_heap hx4
  have c13 : w4.cell? ⟨w.heap.size, 13, none⟩ = some (.int .i64 ps) := cell_of_heap hx4
  have c14 : w4.cell? ⟨w.heap.size, 14, none⟩ = some (.int .i64 pi) := cell_of_heap hx4
  have c15 : w4.cell? ⟨w.heap.size, 15, none⟩ = some (.int .i64 pm) := cell_of_heap hx4
  have c16 : w4.cell? ⟨w.heap.size, 16, none⟩ = some (.slice da dl dc) := cell_of_heap hx4
  have HLs : Hid (Calls Tryz.prog 41 #[.slice la ll lc] w4 fun e w' => e = .returned (.bool (decide (m.list.length ≤ 4096) && m.list.all mayTm)) ∧ Below w4.heap.size w4 w') := refList_any _ m.list w4 ((unhide K1).below hB4) (unhide HOM).list
  have HEn : Hid (Calls Tryz.prog 10 #[.agg #[.int .i64 ek, .int .i64 ef, .int .i64 en, .slice ta tl tc]] w4 fun e w' => e = .returned (.bool (mayE m.ent)) ∧ Below w4.heap.size w4 w') := mayEntry_any _ m.ent w4 ((unhide K2).below hB4) (unhide HOM).ent
  have HPt : Hid (Calls Tryz.prog 42 #[.agg #[.int .i64 ps, .int .i64 pi, .int .i64 pm, .slice da dl dc]] w4 fun e w' => e = .returned (.bool (mayP m.part)) ∧ Below w4.heap.size w4 w') := mayPart_any _ m.part w4 ((unhide K3).below hB4)
  obtain ⟨DD, hDD⟩ : ∃ b, decide (m = plainM m) = b := ⟨_, rfl⟩
  rw [hDD] at HR ⊢
  clear hx4 hB4 hDD
  rw [decide_eq_true hk] at HR
  cases DD with
  | false =>
    go_wp2_with (first | (go_at_call 30; refine (replica_any _ _).mono ?_; rintro e w' ⟨rfl, rfl⟩) | (go_at_call 31; refine (count_any _ _).mono ?_; rintro e w' ⟨rfl, rfl⟩) | fail)
    go_ret
    exact ⟨retBool (by rw [unhide HR]; simp), unhide HB4⟩
  | true =>
  cases h1 : isRep aF with
  | false =>
    go_wp2_with (first | (go_at_call 30; refine (replica_any _ _).mono ?_; rintro e w' ⟨rfl, rfl⟩) | (go_at_call 31; refine (count_any _ _).mono ?_; rintro e w' ⟨rfl, rfl⟩) | fail)
    go_ret
    exact ⟨retBool (by rw [unhide HR, h1]; simp), unhide HB4⟩
  | true =>
  cases h2 : isRep aO with
  | false =>
    go_wp2_with (first | (go_at_call 30; refine (replica_any _ _).mono ?_; rintro e w' ⟨rfl, rfl⟩) | (go_at_call 31; refine (count_any _ _).mono ?_; rintro e w' ⟨rfl, rfl⟩) | fail)
    go_ret
    exact ⟨retBool (by rw [unhide HR, h1, h2]; simp), unhide HB4⟩
  | true =>
  cases h3 : isCnt aT with
  | false =>
    go_wp2_with (first | (go_at_call 30; refine (replica_any _ _).mono ?_; rintro e w' ⟨rfl, rfl⟩) | (go_at_call 31; refine (count_any _ _).mono ?_; rintro e w' ⟨rfl, rfl⟩) | fail)
    go_ret
    exact ⟨retBool (by rw [unhide HR, h1, h2, h3]; simp), unhide HB4⟩
  | true =>
  cases h4 : isCnt aS with
  | false =>
    go_wp2_with (first | (go_at_call 30; refine (replica_any _ _).mono ?_; rintro e w' ⟨rfl, rfl⟩) | (go_at_call 31; refine (count_any _ _).mono ?_; rintro e w' ⟨rfl, rfl⟩) | fail)
    go_ret
    exact ⟨retBool (by rw [unhide HR, h1, h2, h3, h4]; simp), unhide HB4⟩
  | true =>
  cases h5 : isCnt aL with
  | false =>
    go_wp2_with (first | (go_at_call 30; refine (replica_any _ _).mono ?_; rintro e w' ⟨rfl, rfl⟩) | (go_at_call 31; refine (count_any _ _).mono ?_; rintro e w' ⟨rfl, rfl⟩) | fail)
    go_ret
    exact ⟨retBool (by rw [unhide HR, h1, h2, h3, h4, h5]; simp), unhide HB4⟩
  | true =>
  cases h6 : isCnt aC with
  | false =>
    go_wp2_with (first | (go_at_call 30; refine (replica_any _ _).mono ?_; rintro e w' ⟨rfl, rfl⟩) | (go_at_call 31; refine (count_any _ _).mono ?_; rintro e w' ⟨rfl, rfl⟩) | fail)
    go_ret
    exact ⟨retBool (by rw [unhide HR, h1, h2, h3, h4, h5, h6]; simp), unhide HB4⟩
  | true =>
  have hRt : RR = (if aK = 3 then decide (m.list.length ≤ 4096) && m.list.all mayTm else if aK = 6 then mayE m.ent else if aK = 5 then mayP m.part else true) := by rw [unhide HR, h1, h2, h3, h4, h5, h6]; simp
  by_cases q3 : aK = 3
  case pos =>
    subst q3
    go_wp2_with (first | (go_at_call 30; refine (replica_any _ _).mono ?_; rintro e w' ⟨rfl, rfl⟩) | (go_at_call 31; refine (count_any _ _).mono ?_; rintro e w' ⟨rfl, rfl⟩) | fail)
    refine (unhide HLs).mono ?_
    rintro e w5 ⟨rfl, hb5⟩
    have HB9 : Hid (Below w.heap.size w w5) := (unhide HB4).trans (hb5.mono (unhide HB4).size)
    clear hb5
    go_wp2_with fail
    go_ret
    exact ⟨retBool (by rw [hRt]; simp), unhide HB9⟩
  by_cases q6 : aK = 6
  case pos =>
    subst q6
    go_wp2_with (first | (go_at_call 30; refine (replica_any _ _).mono ?_; rintro e w' ⟨rfl, rfl⟩) | (go_at_call 31; refine (count_any _ _).mono ?_; rintro e w' ⟨rfl, rfl⟩) | fail)
    refine (unhide HEn).mono ?_
    rintro e w5 ⟨rfl, hb5⟩
    have HB9 : Hid (Below w.heap.size w w5) := (unhide HB4).trans (hb5.mono (unhide HB4).size)
    clear hb5
    go_wp2_with fail
    go_ret
    exact ⟨retBool (by rw [hRt]; simp), unhide HB9⟩
  by_cases q5 : aK = 5
  case pos =>
    subst q5
    go_wp2_with (first | (go_at_call 30; refine (replica_any _ _).mono ?_; rintro e w' ⟨rfl, rfl⟩) | (go_at_call 31; refine (count_any _ _).mono ?_; rintro e w' ⟨rfl, rfl⟩) | fail)
    refine (unhide HPt).mono ?_
    rintro e w5 ⟨rfl, hb5⟩
    have HB9 : Hid (Below w.heap.size w w5) := (unhide HB4).trans (hb5.mono (unhide HB4).size)
    clear hb5
    go_wp2_with fail
    go_ret
    exact ⟨retBool (by rw [hRt]; simp), unhide HB9⟩
  case neg =>
    go_wp2_with (first | (go_at_call 30; refine (replica_any _ _).mono ?_; rintro e w' ⟨rfl, rfl⟩) | (go_at_call 31; refine (count_any _ _).mono ?_; rintro e w' ⟨rfl, rfl⟩) | fail)
    go_ret
    exact ⟨retBool (by rw [hRt, if_neg q3, if_neg q6, if_neg q5]), unhide HB4⟩
end Go.Proofs.YtggllgimlfchhabGreat
