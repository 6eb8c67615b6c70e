/- Save while the power goes: behind it there is the old checkpoint or the new one. -/
import Derived.Test.YtiijbklaapaheaaTA
import Derived.Test.YtiijbklaapaheaaWholeM
namespace Go.Proofs.Ytiijbklaapaheaa
open Go.RowKit
set_option maxRecDepth 100000

theorem prog_fuse {F : Fl} (hd : F.down = false) (h0 : 0 ≤ F.cnt) (i j : Nat) (zs : List Int) (hi : i < F.n) (hj : j < 16) (hz : zs.length ≤ 256) (hb : F.st i j = 0) :
    ((F.prog i j zs).1 = 0 ∧ (F.prog i j zs).2.down = false ∧ 0 ≤ (F.prog i j zs).2.cnt ∧ (F.prog i j zs).2.st i j = 2 ∧ (F.prog i j zs).2.bs i j = strOf (pageL zs)) ∨
    ((F.prog i j zs).1 = 7 ∧ (((F.prog i j zs).2.st i j = 2 ∧ (F.prog i j zs).2.bs i j = strOf (pageL zs)) ∨ (F.prog i j zs).2.st i j ≠ 2)) := by
  have e : F.prog i j zs = (F.code, F.changed (putA i j) 2 (strOf (pageL zs))) := by
    unfold Fl.prog
    rw [if_neg (by rw [hd]; decide), if_neg (not_not_intro ⟨by omega, by omega, by omega, by omega⟩), if_neg (by omega), if_neg (by simpa using hb)]
    rfl
  rw [e]
  obtain ⟨p1, p2, _, p4, _⟩ := burnt_pg F
  by_cases c : F.cnt = 1
  · right
    refine ⟨by unfold Fl.code; rw [if_pos c], ?_⟩
    unfold Fl.changed
    simp only [if_pos c]
    by_cases k2 : F.keep = 2
    · left
      rw [if_pos k2]
      constructor <;> simp [Fl.fall, putA, Fl.put, Fl.setSt, Fl.setBs]
    · right
      rw [if_neg k2]
      by_cases k1 : F.keep = 1
      · rw [if_pos k1]
        simp [Fl.fall, putA, Fl.put, Fl.setSt, Fl.setBs]
      · rw [if_neg k1]
        show F.burnt.st i j ≠ 2
        rw [p1, hb]; decide
  · left
    refine ⟨by unfold Fl.code; rw [if_neg c], ?_⟩
    unfold Fl.changed
    simp only [if_neg c]
    refine ⟨p4.trans hd, ?_, ?_, ?_⟩
    · show 0 ≤ F.burnt.cnt
      unfold Fl.burnt
      split
      · exact h0
      · show 0 ≤ F.cnt - 1; omega
    · simp [putA, Fl.put, Fl.setSt, Fl.setBs]
    · simp [putA, Fl.put, Fl.setSt, Fl.setBs]

theorem erase_fuse {F : Fl} (hd : F.down = false) (h0 : 0 ≤ F.cnt) (i : Nat) (hi : i < F.n) :
    ((F.erase i).1 = 0 ∧ (F.erase i).2.down = false ∧ 0 ≤ (F.erase i).2.cnt ∧ ∀ j, j < 16 → (F.erase i).2.st i j = 0) ∨
    ((F.erase i).1 = 7 ∧ ((∀ j, j < 16 → (F.erase i).2.st i j ≠ 2) ∨ ∀ j, (F.erase i).2.st i j = F.st i j ∧ (F.erase i).2.bs i j = F.bs i j)) := by
  have e : F.erase i = (F.code, F.changed (anewA i) 0 ⟨#[]⟩) := by
    unfold Fl.erase
    rw [if_neg (by rw [hd]; decide), if_neg (not_not_intro ⟨by omega, by omega, by decide, by decide⟩)]
    rfl
  rw [e]
  obtain ⟨p1, p2, _, p4, _⟩ := burnt_pg F
  by_cases c : F.cnt = 1
  · right
    refine ⟨by unfold Fl.code; rw [if_pos c], ?_⟩
    unfold Fl.changed
    simp only [if_pos c]
    by_cases k2 : F.keep = 2
    · left
      rw [if_pos k2]
      intro j hj
      simp [Fl.fall, anewA, Fl.anew, Fl.fill, Fl.setWear, hj]
    · rw [if_neg k2]
      by_cases k1 : F.keep = 1
      · left
        rw [if_pos k1]
        intro j hj
        simp [Fl.fall, anewA, Fl.anew, Fl.fill, Fl.setWear, hj]
      · right
        rw [if_neg k1]
        intro j
        show F.burnt.st i j = _ ∧ F.burnt.bs i j = _
        rw [p1, p2]; exact ⟨rfl, rfl⟩
  · left
    refine ⟨by unfold Fl.code; rw [if_neg c], ?_⟩
    unfold Fl.changed
    simp only [if_neg c]
    refine ⟨p4.trans hd, ?_, ?_⟩
    · show 0 ≤ F.burnt.cnt
      unfold Fl.burnt
      split
      · exact h0
      · show 0 ≤ F.cnt - 1; omega
    · intro j hj
      simp [anewA, Fl.anew, Fl.fill, Fl.setWear, hj]

/-- Blocks cleared while the power may go. -/
theorem clr_fuse (k : Nat) : ∀ (F : Fl) (b : Nat), F.down = false → 0 ≤ F.cnt → b + k ≤ F.n →
    (clr F b k).2.n = F.n ∧ (∀ i, (i < b ∨ b + k ≤ i) → ∀ j, (clr F b k).2.st i j = F.st i j ∧ (clr F b k).2.bs i j = F.bs i j) ∧
    (((clr F b k).1 = 0 ∧ (clr F b k).2.down = false ∧ 0 ≤ (clr F b k).2.cnt ∧ ∀ i, b ≤ i → i < b + k → ∀ j, j < 16 → (clr F b k).2.st i j = 0) ∨
     ((clr F b k).1 = 7 ∧ (((clr F b k).2.st b 0 ≠ 2) ∨ ∀ i j, (clr F b k).2.st i j = F.st i j ∧ (clr F b k).2.bs i j = F.bs i j))) := by
  induction k with
  | zero => intro F b hd h0 _; exact ⟨rfl, fun _ _ _ => ⟨rfl, rfl⟩, Or.inl ⟨rfl, hd, h0, fun i h1 h2 => by omega⟩⟩
  | succ k ih =>
    intro F b hd h0 hn
    rw [clr_succ]
    by_cases hu : F.usedE b = 0
    · rw [if_pos hu]
      have hz := used_none (F := F) (i := b) (by omega) hu
      obtain ⟨h1, h2, h3⟩ := ih F (b + 1) hd h0 (by omega)
      refine ⟨h1, fun i hi => h2 i (by omega), ?_⟩
      have hb := h2 b (Or.inl (by omega))
      rcases h3 with ⟨e, e1, e2, e3⟩ | ⟨e, _⟩
      · left
        refine ⟨e, e1, e2, fun i hi1 hi2 j hj => ?_⟩
        by_cases c : i = b
        · subst c; rw [(hb j).1]; exact hz j hj
        · exact e3 i (by omega) (by omega) j hj
      · right
        exact ⟨e, Or.inl (by rw [(hb 0).1, hz 0 (by decide)]; decide)⟩
    · rw [if_neg hu]
      have hoth := fun i' j' (h : i' ≠ b) => erase_other F (b : Int) i' j' (by omega)
      have hnn := erase_n F (b : Int)
      rcases erase_fuse hd h0 b (by omega) with ⟨e, e1, e2, e3⟩ | ⟨e, e1⟩
      · rw [if_neg (not_not_intro e)]
        generalize (F.erase (b : Int)).2 = G at *
        obtain ⟨h1, h2, h3⟩ := ih G (b + 1) e1 e2 (by rw [hnn]; omega)
        have hb := h2 b (Or.inl (by omega))
        refine ⟨h1.trans hnn, fun i hi j => ?_, ?_⟩
        · rw [(h2 i (by omega) j).1, (h2 i (by omega) j).2]
          exact hoth i j (by omega)
        rcases h3 with ⟨f, f1, f2, f3⟩ | ⟨f, _⟩
        · left
          refine ⟨f, f1, f2, fun i hi1 hi2 j hj => ?_⟩
          by_cases c : i = b
          · subst c; rw [(hb j).1]; exact e3 j hj
          · exact f3 i (by omega) (by omega) j hj
        · right
          exact ⟨f, Or.inl (by rw [(hb 0).1, e3 0 (by decide)]; decide)⟩
      · rw [if_pos (by rw [e]; decide)]
        refine ⟨hnn, fun i hi j => hoth i j (by omega), Or.inr ⟨e, ?_⟩⟩
        rcases e1 with h | h
        · exact Or.inl (h 0 (by decide))
        · right
          intro i j
          by_cases c : i = b
          · subst c; exact h j
          · exact hoth i j c

/-- Pages written one behind the other while the power may go. -/
theorem wrt_fuse (cs : List (List Int)) : ∀ (F : Fl) (f i m : Nat), F.down = false → 0 ≤ F.cnt → f + m ≤ F.n → i + cs.length ≤ m * 16 → (∀ c ∈ cs, c.length ≤ 256) → (∀ k, i ≤ k → k < i + cs.length → F.st (f + k / 16) (k % 16) = 0) →
    (wrt F f i cs).2.n = F.n ∧
    (∀ a b, b < 16 → (∀ k, i ≤ k → k < i + cs.length → ¬ (a = f + k / 16 ∧ b = k % 16)) → (wrt F f i cs).2.st a b = F.st a b ∧ (wrt F f i cs).2.bs a b = F.bs a b) ∧
    ∃ t, t ≤ cs.length ∧ ((wrt F f i cs).1 = 0 → t = cs.length ∧ (wrt F f i cs).2.down = false) ∧ (t < cs.length → (wrt F f i cs).2.st (f + (i + t) / 16) ((i + t) % 16) ≠ 2) ∧
      ∀ k, i ≤ k → k < i + t → (wrt F f i cs).2.st (f + k / 16) (k % 16) = 2 ∧ (wrt F f i cs).2.bs (f + k / 16) (k % 16) = strOf (pageL (cs.getD (k - i) [])) := by
  induction cs with
  | nil => intro F f i m hd h0 _ _ _ _; exact ⟨rfl, fun _ _ _ _ => ⟨rfl, rfl⟩, 0, Nat.le_refl _, fun _ => ⟨rfl, hd⟩, fun h => by simp at h, fun k h1 h2 => by omega⟩
  | cons c cs ih =>
    intro F f i m hd h0 hn hl hc hz
    rw [List.length_cons] at hl hz
    have hoth := fun a b (h : ¬ (a = f + i / 16 ∧ b = i % 16)) => prog_other F ((f + i / 16 : Nat) : Int) ((i % 16 : Nat) : Int) c a b (by omega)
    have hnn := prog_n F ((f + i / 16 : Nat) : Int) ((i % 16 : Nat) : Int) c
    have hp := prog_fuse hd h0 (f + i / 16) (i % 16) c (by omega) (by omega) (hc c (by simp)) (hz i (Nat.le_refl _) (by omega))
    rw [wrt_cons]
    rcases hp with ⟨e, e1, e2, e3, e4⟩ | ⟨e, e1⟩
    · rw [if_neg (not_not_intro e)]
      generalize (F.prog ((f + i / 16 : Nat) : Int) ((i % 16 : Nat) : Int) c).2 = G at *
      obtain ⟨h1, h2, t, t1, t2, t3, t4⟩ := ih G f (i + 1) m e1 e2 (by rw [hnn]; exact hn) (by omega) (fun x hx => hc x (by simp [hx])) (fun k hk1 hk2 => by
        rw [(hoth _ _ (by omega)).1]; exact hz k (by omega) (by omega))
      refine ⟨h1.trans hnn, ?_, t + 1, by rw [List.length_cons]; omega, fun h => ⟨by rw [List.length_cons, (t2 h).1], (t2 h).2⟩, ?_, ?_⟩
      · intro a b hb hk
        rw [List.length_cons] at hk
        have := h2 a b hb (fun k h1 h2 => hk k (by omega) (by omega))
        rw [this.1, this.2]
        exact hoth a b (hk i (Nat.le_refl _) (by omega))
      · intro h
        rw [List.length_cons] at h
        have := t3 (by omega)
        rw [show i + 1 + t = i + (t + 1) by omega] at this
        exact this
      · intro k hk1 hk2
        by_cases ek : k = i
        · subst ek
          have := h2 (f + k / 16) (k % 16) (by omega) (fun k' h1 h2 => by omega)
          rw [this.1, this.2, e3, e4]
          simp
        · have := t4 k (by omega) (by omega)
          rw [this.1, this.2]
          refine ⟨rfl, ?_⟩
          rw [show k - i = (k - (i + 1)) + 1 by omega, List.getD_cons_succ]
    · rw [if_pos (by rw [e]; decide)]
      refine ⟨hnn, fun a b _ hk => hoth a b (hk i (Nat.le_refl _) (by rw [List.length_cons]; omega)), ?_⟩
      have e' : ∀ {A B : Prop}, (F.prog ((f + i / 16 : Nat) : Int) ((i % 16 : Nat) : Int) c).1 = 0 → A ∧ B := fun h => by rw [e] at h; cases h
      rcases e1 with ⟨e1, e2⟩ | e1
      · refine ⟨1, by rw [List.length_cons]; omega, e', ?_, ?_⟩
        · intro h
          rw [List.length_cons] at h
          rw [(hoth (f + (i + 1) / 16) ((i + 1) % 16) (by omega)).1, hz (i + 1) (by omega) (by omega)]
          decide
        · intro k hk1 hk2
          obtain rfl : k = i := by omega
          exact ⟨e1, by rw [e2]; simp⟩
      · exact ⟨0, Nat.zero_le _, e', fun _ => e1, fun k h1 h2 => by omega⟩

/-- What a half shows of which only the first pages were written. -/
theorem pgs_upto {G : Fl} {f m : Nat} {zs : List Int} (hd : G.down = false) (hn : f + m ≤ G.n) (hby : Byt zs) (t : Nat) (ht : t < chN zs.length) (hN : chN zs.length ≤ m * 16)
    (h1 : ∀ k, k < t → G.st (f + k / 16) (k % 16) = 2 ∧ G.bs (f + k / 16) (k % 16) = strOf (pageL (ch zs k))) (h2 : G.st (f + t / 16) (t % 16) ≠ 2) :
    ∀ (K i : Nat), i + K = m * 16 → i ≤ t → (pgs G f i K).flatten = (zs.take (t * 256)).drop (i * 256) := by
  have hlen : t * 256 < zs.length := by unfold chN at ht; omega
  intro K
  induction K with
  | zero => intro i hi hiN; omega
  | succ K ih =>
    intro i hi hit
    rw [pgs_succ]
    have hw : G.within ((f + i / 16 : Nat) : Int) ((i % 16 : Nat) : Int) := ⟨by omega, by omega, by omega, by omega⟩
    by_cases c : i = t
    · subst c
      have e : G.readE ((f + i / 16 : Nat) : Int) ((i % 16 : Nat) : Int) ≠ 0 := by
        unfold Fl.readE
        rw [if_neg (by rw [hd]; decide), if_neg (not_not_intro hw)]
        have e0 := h2
        rw [← Int.toNat_natCast (f + i / 16), ← Int.toNat_natCast (i % 16)] at e0
        rw [if_neg e0]
        split <;> decide
      rw [if_pos e]
      simp
    · obtain ⟨hs, hb⟩ := h1 i (by omega)
      have e : G.readE ((f + i / 16 : Nat) : Int) ((i % 16 : Nat) : Int) = 0 := by
        unfold Fl.readE
        rw [if_neg (by rw [hd]; decide), if_neg (not_not_intro hw)]
        have e0 := hs
        rw [← Int.toNat_natCast (f + i / 16), ← Int.toNat_natCast (i % 16)] at e0
        rw [if_pos e0]
      have eb : G.readB ((f + i / 16 : Nat) : Int) ((i % 16 : Nat) : Int) = pageL (ch zs i) := by
        unfold Fl.readB
        rw [if_pos e]
        simp only [Int.toNat_natCast]
        rw [hb]
        exact bytesOf_strOf (pageL_byt (ch_byt hby i))
      have cl : (ch zs i).length = 256 := by rw [ch_len]; omega
      have hpg : pageL (ch zs i) = ch zs i := by unfold pageL; rw [cl]; simp
      rw [if_neg (not_not_intro e), eb, List.flatten_cons, ih (i + 1) (by omega) (by omega), hpg]
      unfold ch
      rw [show (i + 1) * 256 = i * 256 + 256 by omega, ← List.drop_drop]
      have : (zs.drop (i * 256)).take 256 = ((zs.take (t * 256)).drop (i * 256)).take 256 := by
        rw [List.drop_take, List.take_take]
        congr 1
        omega
      rw [this, List.take_append_drop]

/-- A half written while the power may go, with the power back: it shows the whole, a beginning of it, or what it showed. -/
theorem wrtH_fuse {F G : Fl} (hd : F.down = false) (h0 : 0 ≤ F.cnt) (f m : Nat) (zs : List Int) (hn : f + m ≤ F.n) (hz : zs.length ≤ m * 4096) (hz0 : 0 < zs.length) (hby : Byt zs)
    (gd : G.down = false) (gn : G.n = (wrtH F f m zs).2.n) (gs : G.st = (wrtH F f m zs).2.st) (gb : G.bs = (wrtH F f m zs).2.bs) :
    G.n = F.n ∧ (∀ i, (i < f ∨ f + m ≤ i) → ∀ j, j < 16 → G.st i j = F.st i j ∧ G.bs i j = F.bs i j) ∧ ((wrtH F f m zs).1 = 0 → (wrtH F f m zs).2.down = false) ∧
    ((∃ r, rdL G f m = zs ++ r) ∨ ((wrtH F f m zs).1 ≠ 0 ∧ (rdL G f m = rdL F f m ∨ ∃ t, t < zs.length ∧ rdL G f m = zs.take t))) := by
  obtain ⟨c1, c2, c3⟩ := clr_fuse m F f hd h0 hn
  have hm : 0 < m := by omega
  have hN : chN zs.length ≤ m * 16 := by unfold chN; omega
  have hlen : ((List.range (chN zs.length)).map (ch zs)).length = chN zs.length := by simp
  unfold wrtH at gn gs gb ⊢
  rcases c3 with ⟨e, e1, e2, e3⟩ | ⟨e, e1⟩
  · rw [if_neg (not_not_intro e)] at gn gs gb ⊢
    obtain ⟨h1, h2, t, t1, t2, t3, t4⟩ := wrt_fuse ((List.range (chN zs.length)).map (ch zs)) (clr F f m).2 f 0 m e1 e2 (by rw [c1]; exact hn) (by rw [hlen]; omega)
      (fun c hc => by obtain ⟨x, _, rfl⟩ := List.mem_map.1 hc; rw [ch_len]; omega) (fun k _ hk => e3 _ (by omega) (by omega) _ (by omega))
    rw [hlen] at t1 t2 t3 h2
    rw [← gs] at h2 t3 t4
    rw [← gb] at h2 t4
    rw [← gn] at h1
    have hpg : ∀ k, k < t → G.st (f + k / 16) (k % 16) = 2 ∧ G.bs (f + k / 16) (k % 16) = strOf (pageL (ch zs k)) := fun k hk => by
      have := t4 k (by omega) (by omega)
      refine ⟨this.1, ?_⟩
      rw [this.2]
      congr 2
      simp [List.getD, show k < chN zs.length by omega]
    refine ⟨h1.trans c1, ?_, fun h => (t2 h).2, ?_⟩
    · intro i hi j hj
      have := h2 i j hj (fun k' _ hk' => by omega)
      rw [this.1, this.2]
      exact c2 i hi j
    by_cases ct : t = chN zs.length
    · left
      subst ct
      obtain ⟨r, hr⟩ := pgs_back gd (by rw [h1, c1]; exact hn) hby hN hpg (fun k hk1 hk2 => by
        rw [(h2 (f + k / 16) (k % 16) (by omega) (fun k' _ hk' => by omega)).1]
        exact e3 _ (by omega) (by omega) _ (by omega)) (m * 16) 0 (by omega) (by omega)
      exact ⟨r, by unfold rdL; rw [hr]; simp⟩
    · right
      refine ⟨fun h => ct (t2 h).1, Or.inr ⟨t * 256, by unfold chN at t1 ct; omega, ?_⟩⟩
      have t3' := t3 (by omega)
      rw [Nat.zero_add] at t3'
      unfold rdL
      rw [pgs_upto gd (by rw [h1, c1]; exact hn) hby t (by omega) hN hpg t3' (m * 16) 0 (by omega) (by omega)]
      simp
  · rw [if_pos (by rw [e]; decide)] at gn gs gb ⊢
    rw [← gs, ← gb] at c2 e1
    rw [← gn] at c1
    refine ⟨c1, fun i hi j _ => c2 i hi j, (fun h => by rw [e] at h; cases h), Or.inr ⟨by rw [e]; decide, ?_⟩⟩
    rcases e1 with h | h
    · right
      refine ⟨0, hz0, ?_⟩
      unfold rdL
      obtain ⟨K, hK⟩ : ∃ K, m * 16 = K + 1 := ⟨m * 16 - 1, by omega⟩
      rw [hK, pgs_succ, if_pos]
      · rfl
      · have hw : G.within ((f + 0 / 16 : Nat) : Int) ((0 % 16 : Nat) : Int) := ⟨by omega, by omega, by omega, by omega⟩
        unfold Fl.readE
        rw [if_neg (by rw [gd]; decide), if_neg (not_not_intro hw)]
        have e0 : G.st ((f + 0 / 16 : Nat) : Int).toNat ((0 % 16 : Nat) : Int).toNat ≠ 2 := by simpa using h
        rw [if_neg e0]
        split <;> decide
    · left
      unfold rdL
      rw [pgs_same (gd.trans hd.symm) c1 (m * 16) 0 (fun k _ _ => h _ _)]

theorem dec_cut {number slot last : Int} {ds : List Int} (hl : (bodyB number slot last ds).length ≤ 1048576) (t : Nat) (ht : t < (ckB number slot last ds).length) : dec ((ckB number slot last ds).take t) = .bad := by
  unfold dec
  rw [if_pos]
  unfold ckB
  rw [tu_cut _ hl t ht]
  decide

/-- The newest one stands in the half that is not written next. -/
theorem nwk_bad {F G : Fl} (f m : Nat) (hbad : (dec (rdL G (f + toH (nwk F f m 2) * m) m)).err ≠ 0) (h0 : toH (nwk F f m 2) = 1 → rdL G f m = rdL F f m) (h1 : toH (nwk F f m 2) = 0 → rdL G (f + m) m = rdL F (f + m) m) :
    (nwk G f m 2).ck = (nwk F f m 2).ck := by
  obtain ⟨hnum, _, hat0, hat⟩ := nwk_num F f m 2
  have htwo := nwk_two F f m
  generalize hc : nwk F f m 2 = c at *
  rw [nwk_two]
  have hn : ∀ (x : Ck) (i : Int) (b : Bst), x.err ≠ 0 → b.step i x = b := fun x i b h => by unfold Bst.step; rw [if_neg (fun k => h k.1)]
  have ht : toH c = 0 ∨ toH c = 1 := by
    unfold toH
    split
    · omega
    · exact Or.inl rfl
  generalize hA : dec (rdL F f m) = A at htwo
  generalize hB : dec (rdL F (f + m) m) = B at htwo
  rcases ht with e | e
  · rw [e, Nat.zero_mul, Nat.add_zero] at hbad
    rw [h1 e, hB, hn _ _ _ hbad]
    unfold toH at e
    by_cases cB : B.err = 0 ∧ (Bst.none.step 0 A).ck.num < B.num
    · have h2 : c = ⟨1, B⟩ := by rw [htwo]; unfold Bst.step; exact if_pos cB
      rw [h2]
      have : (0 : Int) < B.num := by
        have := (step_ge Bst.none 0 A).1
        have h00 : Bst.none.ck.num = 0 := rfl
        omega
      unfold Bst.step
      rw [if_pos ⟨cB.1, this⟩]
    · have h2 : c = Bst.none.step 0 A := by
        rw [htwo]
        show (if B.err = 0 ∧ (Bst.none.step 0 A).ck.num < B.num then (⟨1, B⟩ : Bst) else Bst.none.step 0 A) = _
        exact if_neg cB
      have h3 : ¬ (0 < c.ck.num) := by
        intro h
        rw [if_pos h] at e
        have : c.at' = 0 := by
          rw [h2]; unfold Bst.step; split <;> rfl
        omega
      have hc0 : c.ck.num = 0 := by omega
      have h4 : Bst.none.step 0 A = Bst.none := by
        unfold Bst.step
        split
        · rename_i k
          exfalso
          rw [h2] at hc0
          unfold Bst.step at hc0
          rw [if_pos k] at hc0
          have k2 : (0 : Int) < A.num := k.2
          have hc1 : A.num = 0 := hc0
          omega
        · rfl
      rw [h2, h4]
      rw [h4] at cB
      unfold Bst.step
      rw [if_neg cB]
  · rw [e, Nat.one_mul] at hbad
    rw [h0 e, hA, hn _ _ _ hbad]
    unfold toH at e
    by_cases cB : B.err = 0 ∧ (Bst.none.step 0 A).ck.num < B.num
    · have h2 : c = ⟨1, B⟩ := by rw [htwo]; unfold Bst.step; exact if_pos cB
      exfalso
      rw [h2] at e
      split at e
      · simp at e
      · cases e
    · have h2 : c = Bst.none.step 0 A := by
        rw [htwo]
        show (if B.err = 0 ∧ (Bst.none.step 0 A).ck.num < B.num then (⟨1, B⟩ : Bst) else Bst.none.step 0 A) = _
        exact if_neg cB
      rw [h2]

/-- One that is newer by one, in the half that is written next, is then the newest one. -/
theorem nwk_put {F G : Fl} (f m : Nat) (x : Ck) (hx : dec (rdL G (f + toH (nwk F f m 2) * m) m) = x) (he : x.err = 0) (hxn : x.num = (nwk F f m 2).ck.num + 1) (h0 : toH (nwk F f m 2) = 1 → rdL G f m = rdL F f m) (h1 : toH (nwk F f m 2) = 0 → rdL G (f + m) m = rdL F (f + m) m) :
    (nwk G f m 2).ck = x := by
  obtain ⟨hnum, _, hat0, hat⟩ := nwk_num F f m 2
  have htwo := nwk_two F f m
  generalize hc : nwk F f m 2 = c at *
  rw [nwk_two]
  have ht : toH c = 0 ∨ toH c = 1 := by
    unfold toH
    split
    · omega
    · exact Or.inl rfl
  rcases ht with e | e
  · rw [e, Nat.zero_mul, Nat.add_zero] at hx
    rw [h1 e, hx]
    have k1 := (step_ge (Bst.none.step 0 (dec (rdL F f m))) 1 (dec (rdL F (f + m) m))).2
    rw [← htwo] at k1
    rw [show Bst.none.step 0 x = ⟨0, x⟩ by unfold Bst.step; rw [if_pos ⟨he, by show (0 : Int) < x.num; omega⟩]]
    unfold Bst.step
    rw [if_neg (fun k => by have := k1 k.1; have := k.2; simp only at this; omega)]
  · rw [e, Nat.one_mul] at hx
    rw [h0 e, hx]
    have k1 := (step_ge (Bst.none.step 0 (dec (rdL F f m))) 1 (dec (rdL F (f + m) m))).1
    rw [← htwo] at k1
    generalize Bst.none.step 0 (dec (rdL F f m)) = b at k1 ⊢
    unfold Bst.step
    rw [if_pos ⟨he, by omega⟩]

/-- Save while the power may go, and the power is back: the old one or the new one is there; the new one, if it answered OK. -/
theorem sav_fuse {F G : Fl} (hd : F.down = false) (h0 : 0 ≤ F.cnt) (f n : Nat) (hn : f + n ≤ F.n) (hr : regE F.n f n = 0) (slot last : Int) (ds : List Int) (hby : Byt ds)
    (gd : G.down = false) (gn : G.n = (sav F f n slot last ds).2.n) (gs : G.st = (sav F f n slot last ds).2.st) (gb : G.bs = (sav F f n slot last ds).2.bs) :
    ((nwk G f (n / 2) 2).ck = ⟨(nwk F f (n / 2) 2).ck.num + 1, slot, last, ds, 0⟩) ∨ ((sav F f n slot last ds).1 ≠ 0 ∧ (nwk G f (n / 2) 2).ck = (nwk F f (n / 2) 2).ck) := by
  have same : G.n = F.n → G.st = F.st → G.bs = F.bs → (nwk G f (n / 2) 2).ck = (nwk F f (n / 2) 2).ck := fun e1 e2 e3 => by
    have : ∀ a, rdL G a (n / 2) = rdL F a (n / 2) := fun a => by
      unfold rdL
      rw [pgs_same (gd.trans hd.symm) e1 (n / 2 * 16) 0 (fun k _ _ => by rw [e2, e3]; exact ⟨rfl, rfl⟩)]
    rw [nwk_two, nwk_two, this, this]
  unfold sav at gn gs gb ⊢
  rw [if_neg (not_not_intro hr)] at gn gs gb ⊢
  by_cases hx : faultE 1 slot last ds.length = 0
  case neg =>
    rw [if_pos hx] at gn gs gb ⊢
    exact Or.inr ⟨hx, same gn gs gb⟩
  rw [if_neg (not_not_intro hx), if_neg (by rw [hd]; decide)] at gn gs gb ⊢
  simp only [Int.toNat_natCast] at gn gs gb ⊢
  by_cases hm : (nwk F f (n / 2) 2).ck.num = 1099511627776
  · rw [if_pos hm] at gn gs gb ⊢
    exact Or.inr ⟨by simp, same gn gs gb⟩
  rw [if_neg hm] at gn gs gb ⊢
  unfold savW at gn gs gb ⊢
  by_cases hl : n / 2 * 4096 < (ckB ((nwk F f (n / 2) 2).ck.num + 1) slot last ds).length
  · rw [if_pos hl] at gn gs gb ⊢
    exact Or.inr ⟨by simp, same gn gs gb⟩
  rw [if_neg hl] at gn gs gb ⊢
  obtain ⟨n0, n1, a0, _⟩ := nwk_num F f (n / 2) 2
  have hf := faultE_up hx n0 n1 hm
  have hlen := (faultE_ok hx).1
  have hb := bodyB_le ((nwk F f (n / 2) 2).ck.num + 1) slot last ds
  have ht : toH (nwk F f (n / 2) 2) = 0 ∨ toH (nwk F f (n / 2) 2) = 1 := by
    unfold toH
    split
    · omega
    · exact Or.inl rfl
  have hin : f + toH (nwk F f (n / 2) 2) * (n / 2) + n / 2 ≤ F.n := by
    rcases ht with e | e <;> rw [e] <;> omega
  have hB : Byt (ckB ((nwk F f (n / 2) 2).ck.num + 1) slot last ds) := ((putL_byt _).append (bodyB_byt hby)).append (lowL_byte _ _)
  obtain ⟨k1, k2, _, k4⟩ := wrtH_fuse hd h0 _ _ _ hin (by omega) (ckB_pos _ _ _ _) hB gd gn gs gb
  have oth : ∀ a, (a + n / 2 ≤ f + toH (nwk F f (n / 2) 2) * (n / 2) ∨ f + toH (nwk F f (n / 2) 2) * (n / 2) + n / 2 ≤ a) → rdL G a (n / 2) = rdL F a (n / 2) := fun a ha => by
    unfold rdL
    rw [pgs_same (gd.trans hd.symm) k1 (n / 2 * 16) 0 (fun k _ hk => k2 (a + k / 16) (by omega) (k % 16) (by omega))]
  have o0 : toH (nwk F f (n / 2) 2) = 1 → rdL G f (n / 2) = rdL F f (n / 2) := fun e => oth f (by rw [e]; omega)
  have o1 : toH (nwk F f (n / 2) 2) = 0 → rdL G (f + n / 2) (n / 2) = rdL F (f + n / 2) (n / 2) := fun e => oth (f + n / 2) (by rw [e]; omega)
  rcases k4 with ⟨r, hr⟩ | ⟨k4, hold | ⟨t, t1, ht2⟩⟩
  · left
    exact nwk_put f (n / 2) _ (by rw [hr, dec_back r hf (by omega)]) rfl rfl o0 o1
  · right
    refine ⟨k4, ?_⟩
    have : ∀ a, a = f ∨ a = f + n / 2 → rdL G a (n / 2) = rdL F a (n / 2) := fun a ha => by
      rcases ht with e | e
      · rw [e, Nat.zero_mul, Nat.add_zero] at hold
        rcases ha with rfl | rfl
        · exact hold
        · exact o1 e
      · rw [e, Nat.one_mul] at hold
        rcases ha with rfl | rfl
        · exact o0 e
        · exact hold
    rw [nwk_two, nwk_two, this f (Or.inl rfl), this (f + n / 2) (Or.inr rfl)]
  · right
    refine ⟨k4, nwk_bad f (n / 2) ?_ o0 o1⟩
    rw [ht2, dec_cut (by omega) t t1]
    decide
end Go.Proofs.Ytiijbklaapaheaa
