/- The document's has; pure: needs by either way. -/
import Derived.Test.YtldapckooohigaaDoorE33
import Derived.Test.YtldapckooohigaaDoorSG
import Derived.Deep.QuietTactic
import Derived.BigQuiet
namespace Go.Proofs.YtldapckooohigaaDoor
open Go.RowKit
set_option maxRecDepth 100000

theorem valOf_ned (rs : List Ky) (m : List Pr) (k : Ky) : valOf (nedP rs m) k = if k ∈ rs then valOf m k else none := by
  refine snocInd (P := fun m => valOf (nedP rs m) k = if k ∈ rs then valOf m k else none) ?_ (fun m p ih => ?_) m
  · simp [nedP, valOf]
  · rw [nedP_snoc, valOf_snoc]
    by_cases h : p.1 ∈ rs
    · rw [if_pos h, valOf_snoc]
      by_cases e : p.1 = k
      · subst e; simp [h]
      · rw [if_neg e, if_neg e, ih]
    · rw [if_neg h, ih]
      by_cases e : p.1 = k
      · subst e; simp [h]
      · rw [if_neg e]
theorem ned_srt (rs : List Ky) (m : List Pr) : nedP rs (srtP m) = srtP (nedP rs m) := by
  refine srtP_of ((srtP_spec m).1.filter _) fun k u => ?_
  rw [valOf_ned]
  unfold nedP
  rw [List.mem_filter, (srtP_spec m).2.1]
  by_cases h : k ∈ rs <;> simp [h]
set_option maxHeartbeats 1600000 in
theorem rhas_any {v : Value} {l : List Ky} {w : World} (hs : SeesL kC 2 w v l) (a b : Int) :
    Calls Tryd.prog 36 #[v, .agg #[.int .i32 a, .int .i64 b]] w fun e w' => e = .returned (.bool (decide ((a, b) ∈ l))) ∧ Below w.heap.size w w' := by
  obtain ⟨y, hy⟩ : ∃ y, w.alloc (.cells #[.int .i32 a, .int .i64 b] 38) = y := ⟨_, rfl⟩
  have hg : Below w.heap.size w y := hy ▸ below_box _
  have hyb : y.heap[w.heap.size]? = some (.cells #[.int .i32 a, .int .i64 b] 38) := by rw [← hy]; exact heap_alloc_new w _
  have HS : Hid (∀ w', Below y.heap.size y w' → SeesL kC 2 w' v l) := fun w' hb => hs.below kC_len (hg.trans (hb.mono hg.size))
  have HBX : Hid (∀ w', Below y.heap.size y w' → w'.cell? ⟨w.heap.size, 0, none⟩ = some (.int .i32 a) ∧ w'.cell? ⟨w.heap.size, 1, none⟩ = some (.int .i64 b)) := fun w' hb => box_cells hyb hb
  obtain ⟨ao, cap, _, _, hv, hcap, hmax, _⟩ := SeesL.keyS hs
  have HV := hide hv
  obtain ⟨n, hn⟩ : ∃ n, l.length = n := ⟨_, rfl⟩
  rw [hv, hn]
  rw [hn] at HV
  have HN := hide hn
  rw [hn] at hcap hmax
  obtain ⟨r, hr⟩ : ∃ r, decide ((a, b) ∈ l) = r := ⟨_, rfl⟩
  rw [hr]
  have HR := hide hr
  have HG := hide hg
  clear hs hv hn hg hyb hr
  go_enter Tryd.func36, Tryd.ntmps36
  go_wp2_with (rw [hy])
  go_loopw [5] (fun c wr => ∃ t : Nat, t ≤ n ∧ c = .int .i64 t ∧ (∀ u, u < t → l.getD u default ≠ (a, b)) ∧ Below y.heap.size y wr) (fun c _ => n - (intOf c).toNat)
  case atStart => exact ⟨0, by omega, rfl, fun u hu => absurd hu (by omega), Below.refl _ _⟩
  case round =>
    obtain ⟨t, ht, rfl, hall, hbl⟩ := hrel
    have HAL := hide hall
    have HBL := hide hbl
    by_cases hlt : t < n
    · have hnl := unhide HN
      have htl : t < l.length := by omega
      obtain ⟨gb, ob, hao, -, hcx⟩ := key_cells (unhide HS wr hbl) (unhide HV) htl
      subst hao
      obtain ⟨⟨x0, x1⟩, hx⟩ : ∃ k, l.getD t default = k := ⟨_, rfl⟩
      rw [hx] at hcx
      obtain ⟨c1, c2⟩ := hcx wr (Below.refl _ _)
      obtain ⟨d1, d2⟩ := unhide HBX wr hbl
      have hE := eql_key x0 x1 a b
      have HX := hide hx
      clear hcx hx hall hbl htl hnl
      obtain ⟨rq, hq⟩ : ∃ rq, decide ((x0, x1) = (a, b)) = rq := ⟨_, rfl⟩
      rw [hq] at hE
      cases rq with
      | true =>
        have HE := hide (of_decide_eq_true hq)
        clear hq
        go_wp2
        go_quiet (fail)
        generalize hW2 : wr.drewN _ = W2
        have hb2 : Below wr.heap.size wr W2 := hW2 ▸ Below.drewN (Below.refl _ _) _
        have HB2 := hide hb2
        clear hW2 hb2
        go_wp2
        go_ret
        have h1 := unhide HR
        have h2 := unhide HN
        have h3 := unhide HX
        have h0 := unhide HG
        have h5 := unhide HBL
        refine ⟨retBool ?_, (h0.trans (h5.mono h0.size)).trans ((unhide HB2).mono (h0.trans (h5.mono h0.size)).size)⟩
        rw [← h1]
        symm
        refine decide_eq_true ?_
        rw [← unhide HE, ← h3]
        have h4 : t < l.length := by omega
        simp [List.getD, h4]
      | false =>
        have HE := hide (of_decide_eq_false hq)
        clear hq
        go_wp2
        go_quiet (fail)
        generalize hW2 : wr.drewN _ = W2
        have hb2 : Below wr.heap.size wr W2 := hW2 ▸ Below.drewN (Below.refl _ _) _
        have HB2 := hide hb2
        clear hW2 hb2
        go_wp2
        go_roundw
        case rel =>
          refine ⟨t + 1, by omega, by go_num, fun u hu => ?_, (unhide HBL).trans ((unhide HB2).mono (unhide HBL).size)⟩
          by_cases hu' : u = t
          · subst hu'; rw [unhide HX]; exact unhide HE
          · exact unhide HAL u (by omega)
        case measure => simp [intOf]; omega
    · obtain rfl : t = n := by omega
      go_wp2
      go_ret
      have h1 := unhide HR
      have h2 := unhide HN
      have h0 := unhide HG
      refine ⟨retBool ?_, h0.trans ((unhide HBL).mono h0.size)⟩
      rw [← h1]
      symm
      refine decide_eq_false fun hm => ?_
      obtain ⟨i, hi, he⟩ := List.getElem_of_mem hm
      exact unhide HAL i (by omega) (by simp [List.getD, hi, he])
end Go.Proofs.YtldapckooohigaaDoor
