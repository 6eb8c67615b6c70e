/- CodeWrites' walk. -/
import Derived.Test.YtknpfippdddnhaaDoorU2
import Derived.Test.YtknpfippdddnhaaDoorZ3
namespace Go.Proofs.YtknpfippdddnhaaDoor
open Go.RowKit Go.Shelf
set_option maxRecDepth 100000

theorem enc_bytes (l : List Ins) : Byt (enc l).1 := by
  by_cases h : encE l = 0
  · by_cases hl : 512 < (l.flatMap putB).length
    · rw [enc_long h hl]; intro b hb; cases hb
    · rw [enc_yes h (by omega)]; exact enc_byt h
  · rw [enc_no h]; intro b hb; cases hb
set_option maxHeartbeats 3200000 in
theorem writes_walk {w : World} {v : Value} {l : List Ins} (op : Int) (hT : Tab w) (hs : SeesL iC 5 w v l) (hok : OkI l) (hm : l.length ≤ 3518437208883) : Calls Tryd.prog 4 #[v, .int .i64 op] w fun e w' => RwR w e w' := by
  have HE := hide (encode_any hT hs hok hm)
  have HR : Hid (∀ z, Below w.heap.size w z → Calls Tryd.prog 24 #[v] z _) := fun z hb => rencode_any (hs.below iC_len hb) hm
  have HT : Hid (∀ z, Below w.heap.size w z → Tab z) := fun z hb => hT.below hb hT.pos
  have HBY := hide (enc_bytes l)
  have HZ := hide (fun w => rsize_any op w)
  obtain ⟨is, hsz, his⟩ : ∃ is : Bool, (∀ z, Tab z → Calls Tryd.prog 25 #[.int .i64 op] z fun e w' => e = .returned (.tuple #[.int .i64 (sz op), .bool is]) ∧ z = w') ∧ decide (sz op > 0) = is := by
    by_cases h : 0 ≤ op ∧ op < 28
    · exact ⟨true, fun z hz => size_yes op z hz h.1 h.2, decide_eq_true (by have := (op_facts h.1 h.2).1; omega)⟩
    · exact ⟨false, fun z _ => size_no op z h, by rw [sz_none h]; rfl⟩
  have HSZ := hide hsz
  have his2 : decide (0 < sz op) = is := his
  obtain ⟨ao, cap, rfl⟩ := hs.shape
  generalize sz op = s at *
  generalize enc l = D at *
  generalize l.length = n at *
  clear hs hT hsz
  obtain ⟨B, E⟩ := D
  dsimp only at *
  go_enter Tryd.func4, Tryd.ntmps4
  go_wp2_with (first
    | (go_at_call 23; refine (unhide HE).mono ?_; rintro e z1 ⟨x1, rfl, hb1, ho1⟩; obtain ⟨a1, c1, rfl⟩ := own_shape ho1; have HB1 := hide hb1; have HO1 := hide ho1; clear hb1 ho1)
    | (go_at_call 24; refine (unhide HR _ (unhide HB1)).mono ?_; rintro e z2 ⟨x2, rfl, hb2, ho2⟩; obtain ⟨a2, c2, rfl⟩ := own_shape ho2; have HB2 : Hid (Below w.heap.size w z2) := (unhide HB1).trans (hb2.mono (unhide HB1).size); have HS1 := hide ((own_sees yC_len (by decide) (own_below (unhide HO1) hb2)).2); have HS2 := hide (own_sees yC_len (by decide) ho2).2; clear hb2 ho2)
    | (go_at_call 25; refine (unhide HSZ _ (unhide HT _ (unhide HB2))).mono ?_; rintro e z3 ⟨rfl, rfl⟩)
    | (go_at_call 26; refine (unhide HZ _).mono ?_; rintro e z3 ⟨rfl, rfl⟩)
    | (go_at_call 13; refine (live_any (unhide HT _ (unhide HB2))).mono ?_; rintro e z3 ⟨rfl, hb3⟩; have HB3 : Hid (Below w.heap.size w z3) := (unhide HB2).trans (hb3.mono (unhide HB2).size); have HS3 := hide ((unhide HS1).below yC_len hb3); have HS4 := hide ((unhide HS2).below yC_len hb3); clear hb3)
    | (go_at_call 27; refine (equal_any (unhide HS3) (unhide HS4) (unhide HBY) (unhide HBY)).mono ?_; rintro e z4 ⟨he4, rfl⟩; rw [decide_eq_true rfl] at he4; subst he4))
  go_ret
  exact ⟨retBool (by cases is <;> rfl), unhide HB3⟩
end Go.Proofs.YtknpfippdddnhaaDoor
