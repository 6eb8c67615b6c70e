/- What a half that was written shows. -/
import Derived.Test.YtiijbklaapaheaaKE
namespace Go.Proofs.Ytiijbklaapaheaa
open Go.RowKit
set_option maxRecDepth 100000

theorem pgs_back {G : Fl} {f m : Nat} {zs : List Int} (hd : G.down = false) (hn : f + m ≤ G.n) (hby : Byt zs) (hN : chN zs.length ≤ m * 16)
    (h1 : ∀ k, k < chN zs.length → G.st (f + k / 16) (k % 16) = 2 ∧ G.bs (f + k / 16) (k % 16) = strOf (pageL (ch zs k))) (h2 : ∀ k, chN zs.length ≤ k → k < m * 16 → G.st (f + k / 16) (k % 16) = 0) :
    ∀ (K i : Nat), i + K = m * 16 → i ≤ chN zs.length → ∃ r, (pgs G f i K).flatten = zs.drop (i * 256) ++ r := by
  have hend : zs.drop (chN zs.length * 256) = [] := List.drop_eq_nil_of_le (by unfold chN; omega)
  intro K
  induction K with
  | zero =>
    intro i hi hiN
    obtain rfl : i = chN zs.length := by omega
    exact ⟨[], by rw [hend]; rfl⟩
  | succ K ih =>
    intro i hi hiN
    rw [pgs_succ]
    have hw : G.within ((f + i / 16 : Nat) : Int) ((i % 16 : Nat) : Int) := ⟨by omega, by omega, by omega, by omega⟩
    by_cases c : i = chN zs.length
    · have e : G.readE ((f + i / 16 : Nat) : Int) ((i % 16 : Nat) : Int) = 21 := by
        unfold Fl.readE
        rw [if_neg (by rw [hd]; decide), if_neg (not_not_intro hw)]
        have e0 := h2 i (by omega) (by omega)
        rw [← Int.toNat_natCast (f + i / 16), ← Int.toNat_natCast (i % 16)] at e0
        rw [if_neg (by rw [e0]; decide), if_neg (by rw [e0]; decide)]
      rw [if_pos (by rw [e]; decide), c, hend]
      exact ⟨[], rfl⟩
    · obtain ⟨hs, hb⟩ := h1 i (by omega)
      have e : G.readE ((f + i / 16 : Nat) : Int) ((i % 16 : Nat) : Int) = 0 := by
        unfold Fl.readE
        rw [if_neg (by rw [hd]; decide), if_neg (not_not_intro hw)]
        have e0 := hs
        rw [← Int.toNat_natCast (f + i / 16), ← Int.toNat_natCast (i % 16)] at e0
        rw [if_pos e0]
      have eb : G.readB ((f + i / 16 : Nat) : Int) ((i % 16 : Nat) : Int) = pageL (ch zs i) := by
        unfold Fl.readB
        rw [if_pos e]
        simp only [Int.toNat_natCast]
        rw [hb]
        exact bytesOf_strOf (pageL_byt (ch_byt hby i))
      rw [if_neg (not_not_intro e), eb, List.flatten_cons]
      obtain ⟨r, hr⟩ := ih (i + 1) (by omega) (by omega)
      rw [hr]
      have hsplit : zs.drop (i * 256) = ch zs i ++ zs.drop ((i + 1) * 256) := by
        unfold ch
        rw [show (i + 1) * 256 = i * 256 + 256 by omega, ← List.drop_drop, List.take_append_drop]
      by_cases cl : (ch zs i).length = 256
      · refine ⟨r, ?_⟩
        have : pageL (ch zs i) = ch zs i := by unfold pageL; rw [cl]; simp
        rw [this, hsplit, List.append_assoc]
      · have hz : zs.drop ((i + 1) * 256) = [] := List.drop_eq_nil_of_le (by rw [ch_len] at cl; omega)
        refine ⟨List.replicate (256 - (ch zs i).length) 255 ++ r, ?_⟩
        rw [hz, hsplit, hz]
        unfold pageL
        simp

/-- A half that was written is read back, whatever stands behind it. -/
theorem rdL_back {F : Fl} (h : Fine F) (f m : Nat) (zs : List Int) (hn : f + m ≤ F.n) (hz : zs.length ≤ m * 4096) (hby : Byt zs) : ∃ r, rdL (wrtH F f m zs).2 f m = zs ++ r := by
  obtain ⟨_, h2, h3, h4, h5, _⟩ := wrtH_ok h f m zs hn hz
  obtain ⟨r, hr⟩ := pgs_back h2.1 (by rw [h3]; exact hn) hby (by unfold chN; omega) h4 h5 (m * 16) 0 (by omega) (by omega)
  exact ⟨r, by unfold rdL; rw [hr]; simp⟩
/-- The other half shows what it showed. -/
theorem pgs_same {F G : Fl} {f : Nat} (hd : G.down = F.down) (hn : G.n = F.n) : ∀ (K i : Nat), (∀ k, i ≤ k → k < i + K → G.st (f + k / 16) (k % 16) = F.st (f + k / 16) (k % 16) ∧ G.bs (f + k / 16) (k % 16) = F.bs (f + k / 16) (k % 16)) → pgs G f i K = pgs F f i K := by
  intro K
  induction K with
  | zero => intro i _; rfl
  | succ K ih =>
    intro i h
    obtain ⟨hs, hb⟩ := h i (by omega) (by omega)
    have e : G.readE ((f + i / 16 : Nat) : Int) ((i % 16 : Nat) : Int) = F.readE ((f + i / 16 : Nat) : Int) ((i % 16 : Nat) : Int) := by
      have e0 : G.st ((f + i / 16 : Nat) : Int).toNat ((i % 16 : Nat) : Int).toNat = F.st ((f + i / 16 : Nat) : Int).toNat ((i % 16 : Nat) : Int).toNat := hs
      unfold Fl.readE Fl.within
      simp only [hd, hn, e0]
    have eb : G.readB ((f + i / 16 : Nat) : Int) ((i % 16 : Nat) : Int) = F.readB ((f + i / 16 : Nat) : Int) ((i % 16 : Nat) : Int) := by
      unfold Fl.readB
      rw [e]
      simp only [Int.toNat_natCast]
      rw [hb]
    rw [pgs_succ, pgs_succ, e, eb, ih (i + 1) (fun k h1 h2 => h k (by omega) (by omega))]
theorem rdL_other {F : Fl} (h : Fine F) (f m g : Nat) (zs : List Int) (hn : f + m ≤ F.n) (hz : zs.length ≤ m * 4096) (hg : g + m ≤ f ∨ f + m ≤ g) : rdL (wrtH F f m zs).2 g m = rdL F g m := by
  obtain ⟨_, h2, h3, _, _, h6⟩ := wrtH_ok h f m zs hn hz
  unfold rdL
  rw [pgs_same (h2.1.trans h.1.symm) h3 (m * 16) 0 (fun k _ hk => (h6 (g + k / 16) (by omega)).1 (k % 16) (by omega))]
end Go.Proofs.Ytiijbklaapaheaa
