/- Several texts as one. -/
import Derived.Test.YtiijbklaapaheaaKE
import Derived.Test.YtiijbklaapaheaaKA
import Derived.Test.YtiijbklaapaheaaCC

/- A half that is written with nothing in the way: it goes well, and where the pages then stand. -/
namespace Go.Proofs.Ytiijbklaapaheaa
open Go.RowKit
set_option maxRecDepth 100000

/-- A flash on which nothing is in the way: powered, and no fuse set. -/
def Fine (F : Fl) : Prop := F.down = false ∧ F.cnt = 0

theorem rowU_nil {st : Nat → Int} {b : Nat} : ∀ {k : Nat}, rowU st b k = [] → ∀ j, j < k → st j = 0 := by
  intro k
  induction k with
  | zero => intro _ j hj; omega
  | succ k ih =>
    intro h j hj
    rw [rowU, List.append_eq_nil_iff] at h
    by_cases e : j = k
    · subst e
      by_cases c : st j = 0
      · exact c
      · have h2 := h.2
        rw [if_pos c] at h2
        cases h2
    · exact ih h.1 j (by omega)
theorem used_none {F : Fl} {i : Nat} (hi : i < F.n) (h : F.usedE i = 0) : ∀ j, j < 16 → F.st i j = 0 := by
  unfold Fl.usedE at h
  rw [if_pos ⟨by omega, by omega⟩] at h
  exact rowU_nil (List.length_eq_zero_iff.1 (by simpa using h))

theorem Fine.code {F : Fl} (h : Fine F) : F.code = 0 := by unfold Fl.code; rw [h.2]; rfl
theorem Fine.changed {F : Fl} (h : Fine F) (act : Fl → Int → ByteArray → Fl) (s : Int) (b : ByteArray) : F.changed act s b = act F s b := by
  have hb : F.burnt = F := by unfold Fl.burnt; rw [if_pos h.2]
  unfold Fl.changed
  rw [if_neg (by rw [h.2]; decide), hb]
theorem Fine.erase {F : Fl} (h : Fine F) (i : Nat) (hi : i < F.n) : F.erase i = (0, F.anew i 0 ⟨#[]⟩) := by
  unfold Fl.erase
  rw [if_neg (by rw [h.1]; decide), if_neg (not_not_intro ⟨by omega, by omega, by decide, by decide⟩), h.code, h.changed]
  rfl
theorem Fine.prog {F : Fl} (h : Fine F) (i j : Nat) (zs : List Int) (hi : i < F.n) (hj : j < 16) (hz : zs.length ≤ 256) (h0 : F.st i j = 0) : F.prog i j zs = (0, F.put i j 2 (strOf (pageL zs))) := by
  unfold Fl.prog
  rw [if_neg (by rw [h.1]; decide), if_neg (not_not_intro ⟨by omega, by omega, by omega, by omega⟩), if_neg (by omega), if_neg (by simpa using h0), h.code, h.changed]
  rfl

/-- Blocks cleared. -/
theorem clr_ok (k : Nat) : ∀ (F : Fl) (b : Nat), Fine F → b + k ≤ F.n → (clr F b k).1 = 0 ∧ Fine (clr F b k).2 ∧ (clr F b k).2.n = F.n ∧ (∀ i, b ≤ i → i < b + k → ∀ j, j < 16 → (clr F b k).2.st i j = 0) ∧ ∀ i, (i < b ∨ b + k ≤ i) → (∀ j, (clr F b k).2.st i j = F.st i j ∧ (clr F b k).2.bs i j = F.bs i j) ∧ (clr F b k).2.wear i = F.wear i := by
  induction k with
  | zero => intro F b h _; exact ⟨rfl, h, rfl, (fun i h1 h2 => by omega), fun i _ => ⟨fun j => ⟨rfl, rfl⟩, rfl⟩⟩
  | succ k ih =>
    intro F b h hn
    rw [clr_succ]
    by_cases hu : F.usedE b = 0
    · rw [if_pos hu]
      obtain ⟨h1, h2, h3, h4, h5⟩ := ih F (b + 1) h (by omega)
      refine ⟨h1, h2, h3, ?_, fun i hi => h5 i (by omega)⟩
      intro i hi1 hi2 j hj
      by_cases e : i = b
      · subst e
        rw [((h5 i (by omega)).1 j).1]
        exact used_none (by omega) hu j hj
      · exact h4 i (by omega) (by omega) j hj
    · rw [if_neg hu, h.erase b (by omega), if_neg (by simp)]
      have hF : Fine (F.anew b 0 ⟨#[]⟩) := h
      obtain ⟨h1, h2, h3, h4, h5⟩ := ih (F.anew b 0 ⟨#[]⟩) (b + 1) hF (by show b + 1 + k ≤ F.n; omega)
      refine ⟨h1, h2, h3, ?_, ?_⟩
      · intro i hi1 hi2 j hj
        by_cases e : i = b
        · subst e
          rw [((h5 i (by omega)).1 j).1]
          simp [Fl.anew, Fl.fill, Fl.setWear, hj]
        · exact h4 i (by omega) (by omega) j hj
      · intro i hi
        have := h5 i (by omega)
        refine ⟨fun j => ?_, ?_⟩
        · rw [(this.1 j).1, (this.1 j).2]
          have e : i ≠ b := by omega
          simp [Fl.anew, Fl.fill, Fl.setWear, e]
        · rw [this.2]
          have e : i ≠ b := by omega
          simp [Fl.anew, Fl.fill, Fl.setWear, e]

/-- Pages written one behind the other. -/
theorem wrt_ok (cs : List (List Int)) : ∀ (F : Fl) (f i m : Nat), Fine F → f + m ≤ F.n → i + cs.length ≤ m * 16 → (∀ c ∈ cs, c.length ≤ 256) → (∀ k, i ≤ k → k < i + cs.length → F.st (f + k / 16) (k % 16) = 0) →
    (wrt F f i cs).1 = 0 ∧ Fine (wrt F f i cs).2 ∧ (wrt F f i cs).2.n = F.n ∧ (wrt F f i cs).2.wear = F.wear ∧
    (∀ k, i ≤ k → k < i + cs.length → (wrt F f i cs).2.st (f + k / 16) (k % 16) = 2 ∧ (wrt F f i cs).2.bs (f + k / 16) (k % 16) = strOf (pageL (cs.getD (k - i) []))) ∧
    ∀ a b, b < 16 → (∀ k, i ≤ k → k < i + cs.length → ¬ (a = f + k / 16 ∧ b = k % 16)) → (wrt F f i cs).2.st a b = F.st a b ∧ (wrt F f i cs).2.bs a b = F.bs a b := by
  induction cs with
  | nil => intro F f i m h _ _ _ _; exact ⟨rfl, h, rfl, rfl, (fun k h1 h2 => by simp at h2; omega), fun a b _ _ => ⟨rfl, rfl⟩⟩
  | cons c cs ih =>
    intro F f i m h hn hl hc h0
    rw [List.length_cons] at hl h0
    have hp := h.prog (f + i / 16) (i % 16) c (by omega) (by omega) (hc c (by simp)) (h0 i (Nat.le_refl _) (by omega))
    rw [wrt_cons, hp, if_neg (by simp)]
    have hF : Fine (F.put (f + i / 16) (i % 16) 2 (strOf (pageL c))) := h
    have hst : ∀ a b, ¬ (a = f + i / 16 ∧ b = i % 16) → (F.put (f + i / 16) (i % 16) 2 (strOf (pageL c))).st a b = F.st a b ∧ (F.put (f + i / 16) (i % 16) 2 (strOf (pageL c))).bs a b = F.bs a b := fun a b e => by
      simp [Fl.put, Fl.setSt, Fl.setBs, e]
    obtain ⟨h1, h2, h3, h4, h5, h6⟩ := ih (F.put (f + i / 16) (i % 16) 2 (strOf (pageL c))) f (i + 1) m hF hn (by omega) (fun x hx => hc x (by simp [hx])) (fun k hk1 hk2 => by
      rw [(hst _ _ (by omega)).1]; exact h0 k (by omega) (by omega))
    refine ⟨h1, h2, h3, h4, ?_, ?_⟩
    · intro k hk1 hk2
      rw [List.length_cons] at hk2
      by_cases e : k = i
      · subst e
        have := h6 (f + k / 16) (k % 16) (by omega) (fun k' h1 h2 => by omega)
        rw [this.1, this.2]
        simp [Fl.put, Fl.setSt, Fl.setBs]
      · have := h5 k (by omega) (by omega)
        rw [this.1, this.2]
        refine ⟨rfl, ?_⟩
        rw [show k - i = (k - (i + 1)) + 1 by omega, List.getD_cons_succ]
    · intro a b hb hk
      rw [List.length_cons] at hk
      have := h6 a b hb (fun k h1 h2 => hk k (by omega) (by omega))
      rw [this.1, this.2]
      exact hst a b (hk i (Nat.le_refl _) (by omega))

/-- A half written. -/
theorem wrtH_ok {F : Fl} (h : Fine F) (f m : Nat) (zs : List Int) (hn : f + m ≤ F.n) (hz : zs.length ≤ m * 4096) :
    (wrtH F f m zs).1 = 0 ∧ Fine (wrtH F f m zs).2 ∧ (wrtH F f m zs).2.n = F.n ∧
    (∀ k, k < chN zs.length → (wrtH F f m zs).2.st (f + k / 16) (k % 16) = 2 ∧ (wrtH F f m zs).2.bs (f + k / 16) (k % 16) = strOf (pageL (ch zs k))) ∧
    (∀ k, chN zs.length ≤ k → k < m * 16 → (wrtH F f m zs).2.st (f + k / 16) (k % 16) = 0) ∧
    ∀ i, (i < f ∨ f + m ≤ i) → (∀ j, j < 16 → (wrtH F f m zs).2.st i j = F.st i j ∧ (wrtH F f m zs).2.bs i j = F.bs i j) ∧ (wrtH F f m zs).2.wear i = F.wear i := by
  obtain ⟨c1, c2, c3, c4, c5⟩ := clr_ok m F f h hn
  have hN : chN zs.length ≤ m * 16 := by unfold chN; omega
  have hlen : ((List.range (chN zs.length)).map (ch zs)).length = chN zs.length := by simp
  obtain ⟨h1, h2, h3, h4, h5, h6⟩ := wrt_ok ((List.range (chN zs.length)).map (ch zs)) (clr F f m).2 f 0 m c2 (by rw [c3]; exact hn) (by rw [hlen]; omega)
    (fun c hc => by obtain ⟨x, _, rfl⟩ := List.mem_map.1 hc; rw [ch_len]; omega) (fun k _ hk => c4 _ (by omega) (by omega) _ (by omega))
  rw [hlen] at h5 h6
  unfold wrtH
  rw [if_neg (not_not_intro c1)]
  refine ⟨h1, h2, h3.trans c3, ?_, ?_, ?_⟩
  · intro k hk
    have := h5 k (by omega) (by omega)
    refine ⟨this.1, ?_⟩
    rw [this.2]
    congr 2
    simp [List.getD, hk]
  · intro k hk1 hk2
    rw [(h6 (f + k / 16) (k % 16) (by omega) (fun k' _ hk' => by omega)).1]
    exact c4 _ (by omega) (by omega) _ (by omega)
  · intro i hi
    refine ⟨fun j hj => ?_, ?_⟩
    · have := h6 i j hj (fun k' _ hk' => by omega)
      rw [this.1, this.2]
      exact (c5 i hi).1 j
    · rw [h4]
      exact (c5 i hi).2

/-- Of a half whose first page is blank nothing is read. -/
theorem rdL_none {F : Fl} {f m : Nat} (h : F.st f 0 = 0) (hd : F.down = false) : rdL F f m = [] := by
  unfold rdL
  cases hm : m * 16 with
  | zero => rfl
  | succ k =>
    rw [pgs_succ, if_pos]
    · rfl
    · unfold Fl.readE
      rw [if_neg (by rw [hd]; decide)]
      split
      · decide
      · have e : F.st (((f + 0 / 16 : Nat) : Int).toNat) (((0 % 16 : Nat) : Int).toNat) = 0 := by simpa using h
        rw [if_neg (by rw [e]; decide), if_neg (by rw [e]; decide)]
        decide
theorem dec_nil : dec [] = .bad := by unfold dec; rw [if_pos (by decide +kernel)]
theorem nwk_blank (n f m : Nat) : nwk (Fl.blank n) f m 2 = .none := by
  have h : ∀ g, dec (rdL (Fl.blank n) g m) = .bad := fun g => by rw [rdL_none (F := Fl.blank n) rfl rfl, dec_nil]
  simp only [nwk, h]
  rfl
/-- Saved on a blank flash, where it fits. -/
theorem sav_blank {n : Nat} {f b slot last : Int} {ds : List Int} (hn : n ≤ 1024) (hr : regE n f b = 0) (hx : faultE 1 slot last ds.length = 0) (hl : (ckB 1 slot last ds).length ≤ b.toNat / 2 * 4096) : (sav (Fl.blank n) f b slot last ds).1 = 0 := by
  obtain ⟨f', b', rfl, rfl, hb2, hfb⟩ := regE_is hr hn
  simp only [Int.toNat_natCast] at hl
  unfold sav
  rw [if_neg (show ¬ (regE (Fl.blank n).n (f' : Int) (b' : Int) ≠ 0) from not_not_intro hr), if_neg (not_not_intro hx), if_neg (by show ¬ (false = true); decide)]
  simp only [Int.toNat_natCast]
  rw [nwk_blank, if_neg (by decide)]
  unfold savW
  rw [show (Bst.none).ck.num + 1 = 1 by rfl, if_neg (by omega)]
  refine (wrtH_ok (F := Fl.blank n) ⟨rfl, rfl⟩ _ _ _ ?_ hl).1
  show f' + toH Bst.none * (b' / 2) + b' / 2 ≤ n
  rw [show toH Bst.none = 0 by decide]
  omega
end Go.Proofs.Ytiijbklaapaheaa

/- What a half that was written shows. -/
namespace Go.Proofs.Ytiijbklaapaheaa
open Go.RowKit
set_option maxRecDepth 100000

theorem pgs_back {G : Fl} {f m : Nat} {zs : List Int} (hd : G.down = false) (hn : f + m ≤ G.n) (hby : Byt zs) (hN : chN zs.length ≤ m * 16)
    (h1 : ∀ k, k < chN zs.length → G.st (f + k / 16) (k % 16) = 2 ∧ G.bs (f + k / 16) (k % 16) = strOf (pageL (ch zs k))) (h2 : ∀ k, chN zs.length ≤ k → k < m * 16 → G.st (f + k / 16) (k % 16) = 0) :
    ∀ (K i : Nat), i + K = m * 16 → i ≤ chN zs.length → ∃ r, (pgs G f i K).flatten = zs.drop (i * 256) ++ r := by
  have hend : zs.drop (chN zs.length * 256) = [] := List.drop_eq_nil_of_le (by unfold chN; omega)
  intro K
  induction K with
  | zero =>
    intro i hi hiN
    obtain rfl : i = chN zs.length := by omega
    exact ⟨[], by rw [hend]; rfl⟩
  | succ K ih =>
    intro i hi hiN
    rw [pgs_succ]
    have hw : G.within ((f + i / 16 : Nat) : Int) ((i % 16 : Nat) : Int) := ⟨by omega, by omega, by omega, by omega⟩
    by_cases c : i = chN zs.length
    · have e : G.readE ((f + i / 16 : Nat) : Int) ((i % 16 : Nat) : Int) = 21 := by
        unfold Fl.readE
        rw [if_neg (by rw [hd]; decide), if_neg (not_not_intro hw)]
        have e0 := h2 i (by omega) (by omega)
        rw [← Int.toNat_natCast (f + i / 16), ← Int.toNat_natCast (i % 16)] at e0
        rw [if_neg (by rw [e0]; decide), if_neg (by rw [e0]; decide)]
      rw [if_pos (by rw [e]; decide), c, hend]
      exact ⟨[], rfl⟩
    · obtain ⟨hs, hb⟩ := h1 i (by omega)
      have e : G.readE ((f + i / 16 : Nat) : Int) ((i % 16 : Nat) : Int) = 0 := by
        unfold Fl.readE
        rw [if_neg (by rw [hd]; decide), if_neg (not_not_intro hw)]
        have e0 := hs
        rw [← Int.toNat_natCast (f + i / 16), ← Int.toNat_natCast (i % 16)] at e0
        rw [if_pos e0]
      have eb : G.readB ((f + i / 16 : Nat) : Int) ((i % 16 : Nat) : Int) = pageL (ch zs i) := by
        unfold Fl.readB
        rw [if_pos e]
        simp only [Int.toNat_natCast]
        rw [hb]
        exact bytesOf_strOf (pageL_byt (ch_byt hby i))
      rw [if_neg (not_not_intro e), eb, List.flatten_cons]
      obtain ⟨r, hr⟩ := ih (i + 1) (by omega) (by omega)
      rw [hr]
      have hsplit : zs.drop (i * 256) = ch zs i ++ zs.drop ((i + 1) * 256) := by
        unfold ch
        rw [show (i + 1) * 256 = i * 256 + 256 by omega, ← List.drop_drop, List.take_append_drop]
      by_cases cl : (ch zs i).length = 256
      · refine ⟨r, ?_⟩
        have : pageL (ch zs i) = ch zs i := by unfold pageL; rw [cl]; simp
        rw [this, hsplit, List.append_assoc]
      · have hz : zs.drop ((i + 1) * 256) = [] := List.drop_eq_nil_of_le (by rw [ch_len] at cl; omega)
        refine ⟨List.replicate (256 - (ch zs i).length) 255 ++ r, ?_⟩
        rw [hz, hsplit, hz]
        unfold pageL
        simp

/-- A half that was written is read back, whatever stands behind it. -/
theorem rdL_back {F : Fl} (h : Fine F) (f m : Nat) (zs : List Int) (hn : f + m ≤ F.n) (hz : zs.length ≤ m * 4096) (hby : Byt zs) : ∃ r, rdL (wrtH F f m zs).2 f m = zs ++ r := by
  obtain ⟨_, h2, h3, h4, h5, _⟩ := wrtH_ok h f m zs hn hz
  obtain ⟨r, hr⟩ := pgs_back h2.1 (by rw [h3]; exact hn) hby (by unfold chN; omega) h4 h5 (m * 16) 0 (by omega) (by omega)
  exact ⟨r, by unfold rdL; rw [hr]; simp⟩
/-- The other half shows what it showed. -/
theorem pgs_same {F G : Fl} {f : Nat} (hd : G.down = F.down) (hn : G.n = F.n) : ∀ (K i : Nat), (∀ k, i ≤ k → k < i + K → G.st (f + k / 16) (k % 16) = F.st (f + k / 16) (k % 16) ∧ G.bs (f + k / 16) (k % 16) = F.bs (f + k / 16) (k % 16)) → pgs G f i K = pgs F f i K := by
  intro K
  induction K with
  | zero => intro i _; rfl
  | succ K ih =>
    intro i h
    obtain ⟨hs, hb⟩ := h i (by omega) (by omega)
    have e : G.readE ((f + i / 16 : Nat) : Int) ((i % 16 : Nat) : Int) = F.readE ((f + i / 16 : Nat) : Int) ((i % 16 : Nat) : Int) := by
      have e0 : G.st ((f + i / 16 : Nat) : Int).toNat ((i % 16 : Nat) : Int).toNat = F.st ((f + i / 16 : Nat) : Int).toNat ((i % 16 : Nat) : Int).toNat := hs
      unfold Fl.readE Fl.within
      simp only [hd, hn, e0]
    have eb : G.readB ((f + i / 16 : Nat) : Int) ((i % 16 : Nat) : Int) = F.readB ((f + i / 16 : Nat) : Int) ((i % 16 : Nat) : Int) := by
      unfold Fl.readB
      rw [e]
      simp only [Int.toNat_natCast]
      rw [hb]
    rw [pgs_succ, pgs_succ, e, eb, ih (i + 1) (fun k h1 h2 => h k (by omega) (by omega))]
theorem rdL_other {F : Fl} (h : Fine F) (f m g : Nat) (zs : List Int) (hn : f + m ≤ F.n) (hz : zs.length ≤ m * 4096) (hg : g + m ≤ f ∨ f + m ≤ g) : rdL (wrtH F f m zs).2 g m = rdL F g m := by
  obtain ⟨_, h2, h3, _, _, h6⟩ := wrtH_ok h f m zs hn hz
  unfold rdL
  rw [pgs_same (h2.1.trans h.1.symm) h3 (m * 16) 0 (fun k _ hk => (h6 (g + k / 16) (by omega)).1 (k % 16) (by omega))]
end Go.Proofs.Ytiijbklaapaheaa

/- A checkpoint's bytes, whatever stands behind them, say the checkpoint. -/
namespace Go.Proofs.Ytiijbklaapaheaa
open Go.RowKit
set_option maxRecDepth 100000

theorem dec_back {number slot last : Int} {ds : List Int} (r : List Int) (hf : faultE number slot last ds.length = 0) (hl : (bodyB number slot last ds).length ≤ 1048576) : dec (ckB number slot last ds ++ r) = ⟨number, slot, last, ds, 0⟩ := by
  obtain ⟨hd, hI⟩ := faultE_ok hf
  have hu : tu (ckB number slot last ds ++ r) = (bodyB number slot last ds, (sealB (bodyB number slot last ds)).length, 0) := tu_whole _ _ hl
  have hn : nrun (bodyB number slot last ds) 3 = ([number, slot, last], sizeL [number, slot, last], 0) := by
    unfold bodyB
    rw [List.append_assoc]
    exact nrun_put [number, slot, last] _ hI 3 (by simp)
  have hdr : (bodyB number slot last ds).drop (sizeL [number, slot, last]) = putL [(ds.length : Int)] ++ ds := by
    unfold bodyB
    rw [List.append_assoc, List.drop_left' (putL_length _)]
  have hb : tb (putL [(ds.length : Int)] ++ ds) = (ds, sizeL [(ds.length : Int)] + ds.length, 0) := by
    have := tb_blob ds [] (by omega)
    rwa [List.append_nil] at this
  unfold dec
  rw [hu]
  simp only
  rw [hn]
  simp only
  rw [hdr, hb]
  simp only [List.getD_cons_zero, List.getD_cons_succ]
  rw [if_neg (by simp), if_neg (by simp), if_neg (by simp [putL_length]), if_neg (not_not_intro hf)]
end Go.Proofs.Ytiijbklaapaheaa

/- Save with nothing in the way: what is then found is what was saved. -/
namespace Go.Proofs.Ytiijbklaapaheaa
open Go.RowKit
set_option maxRecDepth 100000

theorem nwk_two (F : Fl) (f m : Nat) : nwk F f m 2 = (Bst.none.step 0 (dec (rdL F f m))).step 1 (dec (rdL F (f + m) m)) := by
  show (Bst.none.step ((0 : Nat) : Int) (dec (rdL F (f + 0 * m) m))).step ((1 : Nat) : Int) (dec (rdL F (f + 1 * m) m)) = _
  rw [Nat.zero_mul, Nat.one_mul, Nat.add_zero]
  rfl
theorem step_ge (b : Bst) (i : Int) (c : Ck) : b.ck.num ≤ (b.step i c).ck.num ∧ (c.err = 0 → c.num ≤ (b.step i c).ck.num) := by
  unfold Bst.step
  split
  · rename_i h; exact ⟨by show b.ck.num ≤ c.num; omega, fun _ => Int.le_refl _⟩
  · rename_i h
    refine ⟨Int.le_refl _, fun e => ?_⟩
    by_cases k : b.ck.num < c.num
    · exact absurd ⟨e, k⟩ h
    · omega
theorem sav_new {F : Fl} (h : Fine F) (f m : Nat) (hn : f + m + m ≤ F.n) (slot last : Int) (ds : List Int) (hby : Byt ds) (hf : faultE ((nwk F f m 2).ck.num + 1) slot last ds.length = 0)
    (hz : (ckB ((nwk F f m 2).ck.num + 1) slot last ds).length ≤ m * 4096) (hl : (bodyB ((nwk F f m 2).ck.num + 1) slot last ds).length ≤ 1048576) :
    nwk (wrtH F (f + toH (nwk F f m 2) * m) m (ckB ((nwk F f m 2).ck.num + 1) slot last ds)).2 f m 2 = ⟨(toH (nwk F f m 2) : Nat), ⟨(nwk F f m 2).ck.num + 1, slot, last, ds, 0⟩⟩ := by
  obtain ⟨hnum, _, hat0, hat⟩ := nwk_num F f m 2
  have hB : Byt (ckB ((nwk F f m 2).ck.num + 1) slot last ds) := ((putL_byt _).append (bodyB_byt hby)).append (lowL_byte _ _)
  have htwo := nwk_two F f m
  generalize hc : nwk F f m 2 = c at *
  have ht : toH c = 0 ∨ toH c = 1 := by
    unfold toH
    split
    · omega
    · exact Or.inl rfl
  rw [nwk_two]
  rcases ht with e | e
  · rw [e, Nat.zero_mul, Nat.add_zero]
    obtain ⟨r, hr⟩ := rdL_back h f m (ckB (c.ck.num + 1) slot last ds) (by omega) hz hB
    rw [hr, dec_back r hf hl, rdL_other h f m (f + m) _ (by omega) hz (Or.inr (Nat.le_refl _))]
    have h1 := (step_ge (Bst.none.step 0 (dec (rdL F f m))) 1 (dec (rdL F (f + m) m))).2
    rw [← htwo] at h1
    rw [show Bst.none.step 0 ⟨c.ck.num + 1, slot, last, ds, 0⟩ = ⟨0, ⟨c.ck.num + 1, slot, last, ds, 0⟩⟩ by
      unfold Bst.step; rw [if_pos ⟨rfl, by show (0 : Int) < c.ck.num + 1; omega⟩]]
    unfold Bst.step
    rw [if_neg (fun k => by have := h1 k.1; have := k.2; simp only at this; omega)]
    rfl
  · rw [e, Nat.one_mul]
    obtain ⟨r, hr⟩ := rdL_back h (f + m) m (ckB (c.ck.num + 1) slot last ds) (by omega) hz hB
    rw [hr, dec_back r hf hl, rdL_other h (f + m) m f _ (by omega) hz (Or.inl (Nat.le_refl _))]
    have h1 := (step_ge (Bst.none.step 0 (dec (rdL F f m))) 1 (dec (rdL F (f + m) m))).1
    rw [← htwo] at h1
    generalize Bst.none.step 0 (dec (rdL F f m)) = b at h1 ⊢
    unfold Bst.step
    rw [if_pos ⟨rfl, by show b.ck.num < c.ck.num + 1; omega⟩]
    rfl
end Go.Proofs.Ytiijbklaapaheaa

/- Save with nothing in the way: what it answers, what is found then, how the blocks wear. -/
namespace Go.Proofs.Ytiijbklaapaheaa
open Go.RowKit
set_option maxRecDepth 100000

theorem faultE_up {slot last num : Int} {len : Nat} (h : faultE 1 slot last len = 0) (h0 : 0 ≤ num) (h1 : num ≤ 1099511627776) (h2 : num ≠ 1099511627776) : faultE (num + 1) slot last len = 0 := by
  unfold faultE at h ⊢
  split at h
  · rename_i c
    rw [if_pos ⟨by omega, by omega, c.2.2.1, c.2.2.2⟩]
    exact h
  · cases h

/-- Save with nothing in the way: it is refused and nothing has changed, or it is done, and is then the newest one. -/
theorem sav_fine {F : Fl} (h : Fine F) (f n : Nat) (hn : f + n ≤ F.n) (hr : regE F.n f n = 0) (slot last : Int) (ds : List Int) (hby : Byt ds) :
    ((sav F f n slot last ds).1 ≠ 0 ∧ (sav F f n slot last ds).2 = F) ∨
    ((sav F f n slot last ds).1 = 0 ∧ (nwk F f (n / 2) 2).ck.num ≠ 1099511627776 ∧ faultE 1 slot last ds.length = 0 ∧ (ckB ((nwk F f (n / 2) 2).ck.num + 1) slot last ds).length ≤ n / 2 * 4096 ∧
      (sav F f n slot last ds).2 = (wrtH F (f + toH (nwk F f (n / 2) 2) * (n / 2)) (n / 2) (ckB ((nwk F f (n / 2) 2).ck.num + 1) slot last ds)).2 ∧
      nwk (sav F f n slot last ds).2 f (n / 2) 2 = ⟨(toH (nwk F f (n / 2) 2) : Nat), ⟨(nwk F f (n / 2) 2).ck.num + 1, slot, last, ds, 0⟩⟩) := by
  unfold sav
  rw [if_neg (not_not_intro hr)]
  by_cases hx : faultE 1 slot last ds.length = 0
  case neg => left; rw [if_pos hx]; exact ⟨hx, rfl⟩
  rw [if_neg (not_not_intro hx), if_neg (by rw [h.1]; decide)]
  simp only [Int.toNat_natCast]
  by_cases hm : (nwk F f (n / 2) 2).ck.num = 1099511627776
  · left; rw [if_pos hm]; exact ⟨by simp, rfl⟩
  rw [if_neg hm]
  unfold savW
  by_cases hl : n / 2 * 4096 < (ckB ((nwk F f (n / 2) 2).ck.num + 1) slot last ds).length
  · left; rw [if_pos hl]; exact ⟨by simp, rfl⟩
  rw [if_neg hl]
  obtain ⟨n0, n1, _, _⟩ := nwk_num F f (n / 2) 2
  have hf := faultE_up hx n0 n1 hm
  have hlen := (faultE_ok hx).1
  have hb := bodyB_le ((nwk F f (n / 2) 2).ck.num + 1) slot last ds
  have ht : toH (nwk F f (n / 2) 2) = 0 ∨ toH (nwk F f (n / 2) 2) = 1 := by
    obtain ⟨_, _, a0, _⟩ := nwk_num F f (n / 2) 2
    unfold toH
    split
    · omega
    · exact Or.inl rfl
  have hin : f + toH (nwk F f (n / 2) 2) * (n / 2) + n / 2 ≤ F.n := by
    rcases ht with e | e <;> rw [e] <;> omega
  right
  exact ⟨(wrtH_ok h _ _ _ hin (by omega)).1, hm, hx, by omega, rfl, sav_new h f (n / 2) (by omega) slot last ds hby hf (by omega) (by omega)⟩

theorem rowU_none {st : Nat → Int} {b : Nat} : ∀ {k : Nat}, (∀ j, j < k → st j = 0) → rowU st b k = [] := by
  intro k
  induction k with
  | zero => intro _; rfl
  | succ k ih => intro h; rw [rowU, ih (fun j hj => h j (by omega)), if_neg (not_not_intro (h k (by omega)))]; rfl
theorem used_zero {F : Fl} {i : Nat} (h : ∀ j, j < 16 → F.st i j = 0) : F.usedE i = 0 := by
  unfold Fl.usedE
  split
  · rw [Int.toNat_natCast, rowU_none h]; rfl
  · rfl

/-- How the one block of a half wears. -/
theorem wrtH_wear {F : Fl} (h : Fine F) (f : Nat) (zs : List Int) (hn : f + 1 ≤ F.n) (hz : zs.length ≤ 4096) :
    (wrtH F f 1 zs).2.wear f = F.wear f ∨ (F.usedE f ≠ 0 ∧ (wrtH F f 1 zs).2.wear f = wrap64 (F.wear f + 1)) := by
  obtain ⟨c1, c2, c3, c4, c5⟩ := clr_ok 1 F f h hn
  have hlen : ((List.range (chN zs.length)).map (ch zs)).length = chN zs.length := by simp
  have hN : chN zs.length ≤ 1 * 16 := by unfold chN; omega
  obtain ⟨_, _, _, h4, _, _⟩ := wrt_ok ((List.range (chN zs.length)).map (ch zs)) (clr F f 1).2 f 0 1 c2 (by rw [c3]; exact hn) (by rw [hlen]; omega)
    (fun c hc => by obtain ⟨x, _, rfl⟩ := List.mem_map.1 hc; rw [ch_len]; omega) (fun k _ hk => c4 _ (by omega) (by omega) _ (by omega))
  unfold wrtH
  rw [if_neg (not_not_intro c1), h4]
  by_cases hu : F.usedE f = 0
  · left
    rw [clr_succ, if_pos hu]
    rfl
  · right
    refine ⟨hu, ?_⟩
    rw [clr_succ, if_neg hu, h.erase f (by omega), if_neg (by simp)]
    show (F.anew f 0 ⟨#[]⟩).wear f = _
    simp [Fl.anew, Fl.setWear]

theorem nwk_none {F : Fl} {f m : Nat} (h1 : F.st f 0 = 0) (h2 : F.st (f + m) 0 = 0) (hd : F.down = false) : nwk F f m 2 = .none := by
  rw [nwk_two, rdL_none h1 hd, rdL_none h2 hd, dec_nil]
  rfl

/-- Where the turns stand behind n saves. -/
structure TI (F0 F : Fl) (n : Nat) : Prop where
  fine : Fine F
  sm : Sm F
  n4 : F.n = 4
  b0 : ∀ j, j < 16 → F.st 0 j = F0.st 0 j ∧ F.bs 0 j = F0.bs 0 j
  b3 : ∀ j, j < 16 → F.st 3 j = F0.st 3 j ∧ F.bs 3 j = F0.bs 3 j
  w0 : F.wear 0 = 0
  w3 : F.wear 3 = 0
  num : (nwk F 1 1 2).ck.num = n
  par : toH (nwk F 1 1 2) = n % 2
  one : n = 0 → ∀ j, j < 16 → F.st 1 j = 0
  two : n ≤ 1 → ∀ j, j < 16 → F.st 2 j = 0
  w1 : 0 ≤ F.wear 1 ∧ (n = 0 → F.wear 1 = 0) ∧ (1 ≤ n → 2 * F.wear 1 ≤ (n : Int) - 1)
  w2 : 0 ≤ F.wear 2 ∧ (n ≤ 1 → F.wear 2 = 0) ∧ (2 ≤ n → 2 * F.wear 2 ≤ (n : Int) - 2)

theorem TI.lt {F0 F : Fl} {n : Nat} (h : TI F0 F n) : n ≤ 1099511627776 := by
  have := (nwk_num F 1 1 2).2.1
  rw [h.num] at this
  omega

theorem wrap64_id {x : Int} (h0 : 0 ≤ x) (h1 : x ≤ 9223372036854775807) : wrap64 x = x := by unfold wrap64; omega

theorem TI.step {F0 F : Fl} {n : Nat} (h : TI F0 F n) (slot last : Int) (ds : List Int) (hby : Byt ds) :
    ((sav F 1 2 slot last ds).1 ≠ 0 ∧ TI F0 (sav F 1 2 slot last ds).2 n) ∨ ((sav F 1 2 slot last ds).1 = 0 ∧ TI F0 (sav F 1 2 slot last ds).2 (n + 1)) := by
  have hlt := h.lt
  have hsm := h.sm.sav 1 2 slot last ds
  rcases sav_fine h.fine 1 2 (by rw [h.n4]; decide) (by rw [h.n4]; decide) slot last ds hby with ⟨h1, h2⟩ | ⟨h1, h2, h3, h4, h5, h6⟩
  · left
    refine ⟨h1, ?_⟩
    rw [show ((1 : Nat) : Int) = 1 from rfl, show ((2 : Nat) : Int) = 2 from rfl] at h2
    rw [h2]; exact h
  · right
    rw [show ((1 : Nat) : Int) = 1 from rfl, show ((2 : Nat) : Int) = 2 from rfl] at h1 h5 h6
    simp only [show (2 : Nat) / 2 = 1 from rfl, Nat.mul_one, Nat.one_mul] at h2 h4 h5 h6
    refine ⟨h1, ?_⟩
    rw [h.par, h.num] at h5 h6
    rw [h.num] at h4
    have hmod : n % 2 = 0 ∨ n % 2 = 1 := by omega
    have hin : 1 + n % 2 + 1 ≤ F.n := by rw [h.n4]; omega
    generalize ckB ((n : Int) + 1) slot last ds = zs at h4 h5
    obtain ⟨_, k2, k3, _, _, k6⟩ := wrtH_ok h.fine (1 + n % 2) 1 zs hin (by omega)
    have hwear := wrtH_wear h.fine (1 + n % 2) zs hin (by omega)
    rw [← h5] at k2 k3 k6 hwear
    generalize (sav F 1 2 slot last ds).2 = G at *
    have o0 := k6 0 (by omega)
    have o3 := k6 3 (by omega)
    obtain ⟨u10, u11, u12⟩ := h.w1
    obtain ⟨u20, u21, u22⟩ := h.w2
    refine ⟨k2, hsm, k3.trans h.n4, fun j hj => ⟨((o0.1 j hj).1).trans (h.b0 j hj).1, ((o0.1 j hj).2).trans (h.b0 j hj).2⟩, fun j hj => ⟨((o3.1 j hj).1).trans (h.b3 j hj).1, ((o3.1 j hj).2).trans (h.b3 j hj).2⟩,
      o0.2.trans h.w0, o3.2.trans h.w3, by rw [h6]; simp, ?_, by omega, ?_, ?_, ?_⟩
    · rw [h6]
      unfold toH
      show (if (0 : Int) < (n : Int) + 1 then (1 - ((n % 2 : Nat) : Int)).toNat else 0) = _
      rw [if_pos (by omega)]
      omega
    · intro hn1 j hj
      have e : n = 0 := by omega
      subst e
      rw [((k6 2 (by omega)).1 j hj).1]
      exact h.two (by omega) j hj
    · rcases hmod with e | e
      · rw [e] at hwear
        simp only [Nat.add_zero] at hwear
        rcases hwear with hw | ⟨hu, hw⟩
        · rw [hw]; exact ⟨u10, by omega, fun _ => by rcases Nat.eq_zero_or_pos n with c | c; · have := u11 c; omega
                                                     · have := u12 c; omega⟩
        · have hn0 : n ≠ 0 := fun c => hu (used_zero (h.one c))
          have := u12 (by omega)
          rw [hw, wrap64_id (by omega) (by omega)]
          exact ⟨by omega, by omega, fun _ => by omega⟩
      · rw [(k6 1 (by omega)).2]
        exact ⟨u10, by omega, fun _ => by have := u12 (by omega); omega⟩
    · rcases hmod with e | e
      · rw [(k6 2 (by omega)).2]
        refine ⟨u20, fun c => u21 (by omega), fun c => ?_⟩
        have := u22 (by omega); omega
      · rw [e] at hwear
        rcases hwear with hw | ⟨hu, hw⟩
        · rw [show (1 + 1 : Nat) = 2 from rfl] at hw
          rw [hw]
          refine ⟨u20, by omega, fun _ => ?_⟩
          rcases Nat.lt_or_ge n 2 with c | c
          · have := u21 (by omega); omega
          · have := u22 c; omega
        · rw [show (1 + 1 : Nat) = 2 from rfl] at hw hu
          have hn1 : ¬ n ≤ 1 := fun c => hu (used_zero (h.two c))
          have := u22 (by omega)
          rw [hw, wrap64_id (by omega) (by omega)]
          exact ⟨by omega, by omega, fun _ => by omega⟩

/-- The flash on which the turns begin: a page beside on either side. -/
def tF0 (zs : List Int) : Fl := ((Fl.blank 4).put 0 0 2 (strOf (pageL zs))).put 3 5 2 (strOf (pageL zs))
theorem tF0_prog {zs : List Int} (hz : zs.length ≤ 256) : (Fl.blank 4).prog 0 0 zs = (0, (Fl.blank 4).put 0 0 2 (strOf (pageL zs))) ∧ ((Fl.blank 4).put 0 0 2 (strOf (pageL zs))).prog 3 5 zs = (0, tF0 zs) := by
  constructor
  · exact Fine.prog (F := Fl.blank 4) ⟨rfl, rfl⟩ 0 0 zs (by show 0 < 4; decide) (by decide) hz rfl
  · exact Fine.prog (F := (Fl.blank 4).put 0 0 2 (strOf (pageL zs))) ⟨rfl, rfl⟩ 3 5 zs (by show 3 < 4; decide) (by decide) hz rfl
theorem tF0_sm {zs : List Int} (hz : zs.length ≤ 256) : Sm (tF0 zs) :=
  ((sm_blank 4).put _ _ _ _ (by rw [strOf_size, pageL_len hz]; decide)).put _ _ _ _ (by rw [strOf_size, pageL_len hz]; decide)
theorem TI.begin {zs : List Int} (hz : zs.length ≤ 256) : TI (tF0 zs) (tF0 zs) 0 := by
  have e : nwk (tF0 zs) 1 1 2 = .none := nwk_none rfl rfl rfl
  refine ⟨⟨rfl, rfl⟩, tF0_sm hz, rfl, fun _ _ => ⟨rfl, rfl⟩, fun _ _ => ⟨rfl, rfl⟩, rfl, rfl, by rw [e]; rfl, by rw [e]; rfl, ?_, ?_, ⟨Int.le_refl 0, fun _ => rfl, by omega⟩, ⟨Int.le_refl 0, fun _ => rfl, by omega⟩⟩
  · intro _ j _; rfl
  · intro _ j _; rfl

theorem rowU_congr {st st' : Nat → Int} {b : Nat} : ∀ {k : Nat}, (∀ j, j < k → st j = st' j) → rowU st b k = rowU st' b k := by
  intro k
  induction k with
  | zero => intro _; rfl
  | succ k ih => intro h; rw [rowU, rowU, ih (fun j hj => h j (by omega)), h k (by omega)]

/-- What stands beside at the end. -/
theorem TI.beside {zs : List Int} {F : Fl} {n : Nat} (h : TI (tF0 zs) F n) (hby : Byt zs) :
    F.readE 0 0 = 0 ∧ F.readB 0 0 = pageL zs ∧ F.usedE 0 = 1 ∧ F.readE 3 5 = 0 ∧ F.readB 3 5 = pageL zs ∧ F.usedE 3 = 1 := by
  have hp : Byt (pageL zs) := pageL_byt hby
  have r0 : F.readE 0 0 = 0 := by
    unfold Fl.readE
    rw [if_neg (by rw [h.fine.1]; decide), if_neg (not_not_intro ⟨by decide, by rw [h.n4]; decide, by decide, by decide⟩), if_pos]
    exact (h.b0 0 (by decide)).1
  have r3 : F.readE 3 5 = 0 := by
    unfold Fl.readE
    rw [if_neg (by rw [h.fine.1]; decide), if_neg (not_not_intro ⟨by decide, by rw [h.n4]; decide, by decide, by decide⟩), if_pos]
    exact (h.b3 5 (by decide)).1
  refine ⟨r0, ?_, ?_, r3, ?_, ?_⟩
  · unfold Fl.readB
    rw [if_pos r0]
    show bytesOf (F.bs 0 0) = _
    rw [(h.b0 0 (by decide)).2]
    exact bytesOf_strOf hp
  · unfold Fl.usedE
    rw [if_pos ⟨by decide, by rw [h.n4]; decide⟩]
    show ((rowU (F.st 0) 0 16).length : Int) = 1
    rw [rowU_congr (st' := fun j => if j = 0 then 2 else 0) (fun j hj => by rw [(h.b0 j hj).1]; simp [tF0, Fl.put, Fl.setSt, Fl.setBs, Fl.blank])]
    decide
  · unfold Fl.readB
    rw [if_pos r3]
    show bytesOf (F.bs 3 5) = _
    rw [(h.b3 5 (by decide)).2]
    exact bytesOf_strOf hp
  · unfold Fl.usedE
    rw [if_pos ⟨by decide, by rw [h.n4]; decide⟩]
    show ((rowU (F.st 3) 3 16).length : Int) = 1
    rw [rowU_congr (st' := fun j => if j = 5 then 2 else 0) (fun j hj => by rw [(h.b3 j hj).1]; simp [tF0, Fl.put, Fl.setSt, Fl.setBs, Fl.blank])]
    decide
end Go.Proofs.Ytiijbklaapaheaa
