/- Contract of Unseal. -/
import Derived.Test.YthdghnppledakaaWG
import Derived.Test.YthdghnppledakaaWH
namespace Go.Proofs.Ythdghnppledakaa
open Go.RowKit

theorem sealR_any (R : Nat) (v : Value) (zs : List Int) (p : Nat) (w : World) (hat : AtR w R v p) (hs : SeesB R w .u8 v zs) (hby : Byt zs) (hm : zs.length ≤ 9223372036854775807) (hp : p ≤ zs.length) :
    Calls Try.prog 44 #[.pointer (some ⟨R, 0, none⟩)] w fun e w' => ReadsB R v p w.heap.size w (tu (zs.drop p)) e w' := by
  have hnum := number_any R v zs p w hat hs hby hm hp
  have hR := lt_of_block hat
  have hle := tn_le (zs.drop p)
  have hlen : (zs.drop p).length = zs.length - p := List.length_drop
  rw [hlen] at hle
  have hdd : ∀ q, (zs.drop p).drop q = zs.drop (p + q) := fun q => List.drop_drop
  unfold tu
  simp only [hlen, hdd]
  clear hdd hlen
  generalize tn (zs.drop p) = t at *
  obtain ⟨n, k, er⟩ := t
  simp only at *
  by_cases he : er ≠ 0
  · rw [if_pos he]
    refine (sealR_num R er w (hide (hnum.mono fun e w' h => ⟨h.2.2 he, h.1⟩))).mono ?_
    rintro e w' ⟨rfl, hb⟩
    exact ⟨hb, fun h0 => absurd h0 he, fun _ => rfl⟩
  have he0 : er = 0 := by simpa using he
  subst he0
  rw [if_neg he]
  have hle' := hle rfl
  by_cases hn : n < 0
  · rw [if_pos hn]
    refine (sealR_neg R n w hn (hide (hnum.mono fun e w' h => ⟨(h.2.1 rfl).1, h.1⟩))).mono ?_
    rintro e w' ⟨rfl, hb⟩
    exact ⟨hb, fun h0 => absurd h0 (by decide), fun _ => rfl⟩
  rw [if_neg hn]
  by_cases hl : 1048576 < n
  · rw [if_pos hl]
    refine (sealR_long R n w hl (hide (hnum.mono fun e w' h => ⟨(h.2.1 rfl).1, h.1⟩))).mono ?_
    rintro e w' ⟨rfl, hb⟩
    exact ⟨hb, fun h0 => absurd h0 (by decide), fun _ => rfl⟩
  rw [if_neg hl]
  by_cases hsh : ((zs.length - p : Nat) : Int) - k < n + 8
  · rw [if_pos hsh]
    by_cases hs1 : (zs.length : Int) - ((p + k : Nat) : Int) < n
    · refine (sealR_short1 R v zs (p + k) n w hs hm (by omega) (by omega) (by omega) hs1 (hide (hnum.mono fun e w' h => ⟨(h.2.1 rfl).1, h.1, (h.2.1 rfl).2.1⟩))).mono ?_
      rintro e w' ⟨rfl, hb⟩
      exact ⟨hb, fun h0 => absurd h0 (by decide), fun _ => rfl⟩
    · refine (sealR_short2 R v zs (p + k) n.toNat n w (by omega) hs hm (by omega) (by omega) (by omega) (hide (hnum.mono fun e w' h => ⟨(h.2.1 rfl).1, h.1, (h.2.1 rfl).2.1⟩))).mono ?_
      rintro e w' ⟨rfl, hb⟩
      exact ⟨hb, fun h0 => absurd h0 (by decide), fun _ => rfl⟩
  rw [if_neg hsh]
  rw [← Nat.add_assoc p k n.toNat]
  by_cases hb : valL ((zs.drop (p + k + n.toNat)).take 8) ≠ chkF c0 ((zs.drop (p + k)).take n.toNat)
  · rw [if_pos hb]
    refine (sealR_bad R v zs (p + k) n.toNat n w (by omega) hs hby hm (by omega) (by omega) hR hb (hide (hnum.mono fun e w' h => ⟨(h.2.1 rfl).1, h.1, (h.2.1 rfl).2.1⟩))).mono ?_
    rintro e w' ⟨rfl, hb⟩
    exact ⟨hb, fun h0 => absurd h0 (by decide), fun _ => rfl⟩
  rw [if_neg hb]
  refine (sealR_ok R v zs (p + k) n.toNat n w (by omega) hs hby hm (by omega) (by omega) hR (by simpa using hb) (hide (hnum.mono fun e w' h => ⟨(h.2.1 rfl).1, h.1, (h.2.1 rfl).2.1, (h.2.1 rfl).2.2⟩))).mono ?_
  rintro e w' ⟨x, rfl, hat', hbb, ho⟩
  refine ⟨hbb, fun _ => ⟨x, rfl, by rw [show p + (k + n.toNat + 8) = p + k + n.toNat + 8 by omega]; exact hat', ?_⟩, fun h => absurd rfl h⟩
  have hl : ((zs.drop (p + k)).take n.toNat).length = n.toNat := by simp; omega
  rw [hl]; exact ho

theorem tu_no (l : List Int) (h : (tu l).2.2 ≠ 0) : (tu l).1 = [] ∧ (tu l).2.1 = 0 := by
  unfold tu at h ⊢
  by_cases c1 : (tn l).2.2 ≠ 0
  · rw [if_pos c1]; exact ⟨rfl, rfl⟩
  rw [if_neg c1] at h ⊢
  by_cases c2 : (tn l).1 < 0
  · rw [if_pos c2]; exact ⟨rfl, rfl⟩
  rw [if_neg c2] at h ⊢
  by_cases c3 : 1048576 < (tn l).1
  · rw [if_pos c3]; exact ⟨rfl, rfl⟩
  rw [if_neg c3] at h ⊢
  by_cases c4 : (l.length : Int) - (tn l).2.1 < (tn l).1 + 8
  · rw [if_pos c4]; exact ⟨rfl, rfl⟩
  rw [if_neg c4] at h ⊢
  by_cases c5 : valL ((l.drop ((tn l).2.1 + (tn l).1.toNat)).take 8) ≠ chkF c0 ((l.drop (tn l).2.1).take (tn l).1.toNat)
  · rw [if_pos c5]; exact ⟨rfl, rfl⟩
  rw [if_neg c5] at h
  exact absurd rfl h

set_option maxHeartbeats 400000 in
/-- Unseal. -/
theorem unseal_any (bv : Value) (zs : List Int) (w : World) (hs : Sees w .u8 bv zs) (hby : Byt zs) (hm : zs.length ≤ 9223372036854775807) :
    Calls Try.prog 25 #[bv] w fun e w' => ∃ x, e = .returned (.tuple #[x, .int .i64 (tu zs).2.1, .int .i64 (tu zs).2.2]) ∧ w'.ownsRow w.heap.size 5 1 x (tu zs).1.length (ints .u8 (tu zs).1) ∧ Below w.heap.size w w' := by
  have hst := tw_sees hs
  have hnum := sealR_any (w.heap.size + 1) bv zs 0 (tw w bv) (tw_at w bv) hst hby hm (Nat.zero_le _)
  rw [List.drop_zero, tw_size] at hnum
  obtain ⟨ao, cap, rfl, hlc, hnil, hc⟩ := hs
  have key : Calls Try.prog 37 #[.slice ao zs.length cap, .func (Fn.func 44) #[] #[]] w fun e w' => ∃ x, e = .returned (.tuple #[x, .int .i64 (tu zs).2.1, .int .i64 (tu zs).2.2]) ∧ w'.ownsRow w.heap.size 5 1 x (tu zs).1.length (ints .u8 (tu zs).1) ∧ Below w.heap.size w w' := by
    by_cases he : (tu zs).2.2 = 0
    · refine (take37_44_ok ao zs.length cap (tu zs).2.1 w (fun x w' => w'.ownsRow (w.heap.size + 2) 5 1 x (tu zs).1.length (ints .u8 (tu zs).1)) (fun _ _ _ h => h) (fun _ _ _ h => ownsRow_setCell_below h (by show w.heap.size < _; omega) _) (fun _ _ _ h => h.alloc _) (hnum.mono ?_)).mono ?_
      · rintro e w' ⟨h1, h2, _⟩
        obtain ⟨x, h3, h4, h5⟩ := h2 he
        rw [Nat.zero_add] at h4
        exact ⟨x, h3, h4, h1, h5⟩
      · rintro e w' ⟨x, rfl, hb, ho⟩
        exact ⟨x, by rw [he], own_mono ho (by omega), hb⟩
    · refine (take37_44_no ao zs.length cap (tu zs).2.2 w (hnum.mono ?_)).mono ?_
      · rintro e w' ⟨h1, _, h3⟩
        exact ⟨h3 he, h1⟩
      · rintro e w' ⟨rfl, hb⟩
        obtain ⟨e1, e2⟩ := tu_no zs he
        rw [e1, e2]
        exact ⟨_, rfl, World.ownsRow_nil _ _ _ _, hb⟩
  have HK := hide key
  clear key hst hnum hc
  go_enter Try.func25, Try.ntmps25
  go_wp2_with (go_at_call 37; refine (unhide HK).mono ?_; rintro e w1 ⟨x, rfl, ho, hb⟩)
  go_ret3
  exact ⟨x, rfl, ho, hb⟩

end Go.Proofs.Ythdghnppledakaa
