/- Save with nothing in the way: what it answers, what is found then, how the blocks wear. -/
import Derived.Test.YtiijbklaapaheaaSN
namespace Go.Proofs.Ytiijbklaapaheaa
open Go.RowKit
set_option maxRecDepth 100000

theorem faultE_up {slot last num : Int} {len : Nat} (h : faultE 1 slot last len = 0) (h0 : 0 ≤ num) (h1 : num ≤ 1099511627776) (h2 : num ≠ 1099511627776) : faultE (num + 1) slot last len = 0 := by
  unfold faultE at h ⊢
  split at h
  · rename_i c
    rw [if_pos ⟨by omega, by omega, c.2.2.1, c.2.2.2⟩]
    exact h
  · cases h

/-- Save with nothing in the way: it is refused and nothing has changed, or it is done, and is then the newest one. -/
theorem sav_fine {F : Fl} (h : Fine F) (f n : Nat) (hn : f + n ≤ F.n) (hr : regE F.n f n = 0) (slot last : Int) (ds : List Int) (hby : Byt ds) :
    ((sav F f n slot last ds).1 ≠ 0 ∧ (sav F f n slot last ds).2 = F) ∨
    ((sav F f n slot last ds).1 = 0 ∧ (nwk F f (n / 2) 2).ck.num ≠ 1099511627776 ∧ faultE 1 slot last ds.length = 0 ∧ (ckB ((nwk F f (n / 2) 2).ck.num + 1) slot last ds).length ≤ n / 2 * 4096 ∧
      (sav F f n slot last ds).2 = (wrtH F (f + toH (nwk F f (n / 2) 2) * (n / 2)) (n / 2) (ckB ((nwk F f (n / 2) 2).ck.num + 1) slot last ds)).2 ∧
      nwk (sav F f n slot last ds).2 f (n / 2) 2 = ⟨(toH (nwk F f (n / 2) 2) : Nat), ⟨(nwk F f (n / 2) 2).ck.num + 1, slot, last, ds, 0⟩⟩) := by
  unfold sav
  rw [if_neg (not_not_intro hr)]
  by_cases hx : faultE 1 slot last ds.length = 0
  case neg => left; rw [if_pos hx]; exact ⟨hx, rfl⟩
  rw [if_neg (not_not_intro hx), if_neg (by rw [h.1]; decide)]
  simp only [Int.toNat_natCast]
  by_cases hm : (nwk F f (n / 2) 2).ck.num = 1099511627776
  · left; rw [if_pos hm]; exact ⟨by simp, rfl⟩
  rw [if_neg hm]
  unfold savW
  by_cases hl : n / 2 * 4096 < (ckB ((nwk F f (n / 2) 2).ck.num + 1) slot last ds).length
  · left; rw [if_pos hl]; exact ⟨by simp, rfl⟩
  rw [if_neg hl]
  obtain ⟨n0, n1, _, _⟩ := nwk_num F f (n / 2) 2
  have hf := faultE_up hx n0 n1 hm
  have hlen := (faultE_ok hx).1
  have hb := bodyB_le ((nwk F f (n / 2) 2).ck.num + 1) slot last ds
  have ht : toH (nwk F f (n / 2) 2) = 0 ∨ toH (nwk F f (n / 2) 2) = 1 := by
    obtain ⟨_, _, a0, _⟩ := nwk_num F f (n / 2) 2
    unfold toH
    split
    · omega
    · exact Or.inl rfl
  have hin : f + toH (nwk F f (n / 2) 2) * (n / 2) + n / 2 ≤ F.n := by
    rcases ht with e | e <;> rw [e] <;> omega
  right
  exact ⟨(wrtH_ok h _ _ _ hin (by omega)).1, hm, hx, by omega, rfl, sav_new h f (n / 2) (by omega) slot last ds hby hf (by omega) (by omega)⟩

theorem rowU_none {st : Nat → Int} {b : Nat} : ∀ {k : Nat}, (∀ j, j < k → st j = 0) → rowU st b k = [] := by
  intro k
  induction k with
  | zero => intro _; rfl
  | succ k ih => intro h; rw [rowU, ih (fun j hj => h j (by omega)), if_neg (not_not_intro (h k (by omega)))]; rfl
theorem used_zero {F : Fl} {i : Nat} (h : ∀ j, j < 16 → F.st i j = 0) : F.usedE i = 0 := by
  unfold Fl.usedE
  split
  · rw [Int.toNat_natCast, rowU_none h]; rfl
  · rfl

/-- How the one block of a half wears. -/
theorem wrtH_wear {F : Fl} (h : Fine F) (f : Nat) (zs : List Int) (hn : f + 1 ≤ F.n) (hz : zs.length ≤ 4096) :
    (wrtH F f 1 zs).2.wear f = F.wear f ∨ (F.usedE f ≠ 0 ∧ (wrtH F f 1 zs).2.wear f = wrap64 (F.wear f + 1)) := by
  obtain ⟨c1, c2, c3, c4, c5⟩ := clr_ok 1 F f h hn
  have hlen : ((List.range (chN zs.length)).map (ch zs)).length = chN zs.length := by simp
  have hN : chN zs.length ≤ 1 * 16 := by unfold chN; omega
  obtain ⟨_, _, _, h4, _, _⟩ := wrt_ok ((List.range (chN zs.length)).map (ch zs)) (clr F f 1).2 f 0 1 c2 (by rw [c3]; exact hn) (by rw [hlen]; omega)
    (fun c hc => by obtain ⟨x, _, rfl⟩ := List.mem_map.1 hc; rw [ch_len]; omega) (fun k _ hk => c4 _ (by omega) (by omega) _ (by omega))
  unfold wrtH
  rw [if_neg (not_not_intro c1), h4]
  by_cases hu : F.usedE f = 0
  · left
    rw [clr_succ, if_pos hu]
    rfl
  · right
    refine ⟨hu, ?_⟩
    rw [clr_succ, if_neg hu, h.erase f (by omega), if_neg (by simp)]
    show (F.anew f 0 ⟨#[]⟩).wear f = _
    simp [Fl.anew, Fl.setWear]

theorem nwk_none {F : Fl} {f m : Nat} (h1 : F.st f 0 = 0) (h2 : F.st (f + m) 0 = 0) (hd : F.down = false) : nwk F f m 2 = .none := by
  rw [nwk_two, rdL_none h1 hd, rdL_none h2 hd, dec_nil]
  rfl

/-- Where the turns stand behind n saves. -/
structure TI (F0 F : Fl) (n : Nat) : Prop where
  fine : Fine F
  sm : Sm F
  n4 : F.n = 4
  b0 : ∀ j, j < 16 → F.st 0 j = F0.st 0 j ∧ F.bs 0 j = F0.bs 0 j
  b3 : ∀ j, j < 16 → F.st 3 j = F0.st 3 j ∧ F.bs 3 j = F0.bs 3 j
  w0 : F.wear 0 = 0
  w3 : F.wear 3 = 0
  num : (nwk F 1 1 2).ck.num = n
  par : toH (nwk F 1 1 2) = n % 2
  one : n = 0 → ∀ j, j < 16 → F.st 1 j = 0
  two : n ≤ 1 → ∀ j, j < 16 → F.st 2 j = 0
  w1 : 0 ≤ F.wear 1 ∧ (n = 0 → F.wear 1 = 0) ∧ (1 ≤ n → 2 * F.wear 1 ≤ (n : Int) - 1)
  w2 : 0 ≤ F.wear 2 ∧ (n ≤ 1 → F.wear 2 = 0) ∧ (2 ≤ n → 2 * F.wear 2 ≤ (n : Int) - 2)

theorem TI.lt {F0 F : Fl} {n : Nat} (h : TI F0 F n) : n ≤ 1099511627776 := by
  have := (nwk_num F 1 1 2).2.1
  rw [h.num] at this
  omega

theorem wrap64_id {x : Int} (h0 : 0 ≤ x) (h1 : x ≤ 9223372036854775807) : wrap64 x = x := by unfold wrap64; omega

theorem TI.step {F0 F : Fl} {n : Nat} (h : TI F0 F n) (slot last : Int) (ds : List Int) (hby : Byt ds) :
    ((sav F 1 2 slot last ds).1 ≠ 0 ∧ TI F0 (sav F 1 2 slot last ds).2 n) ∨ ((sav F 1 2 slot last ds).1 = 0 ∧ TI F0 (sav F 1 2 slot last ds).2 (n + 1)) := by
  have hlt := h.lt
  have hsm := h.sm.sav 1 2 slot last ds
  rcases sav_fine h.fine 1 2 (by rw [h.n4]; decide) (by rw [h.n4]; decide) slot last ds hby with ⟨h1, h2⟩ | ⟨h1, h2, h3, h4, h5, h6⟩
  · left
    refine ⟨h1, ?_⟩
    rw [show ((1 : Nat) : Int) = 1 from rfl, show ((2 : Nat) : Int) = 2 from rfl] at h2
    rw [h2]; exact h
  · right
    rw [show ((1 : Nat) : Int) = 1 from rfl, show ((2 : Nat) : Int) = 2 from rfl] at h1 h5 h6
    simp only [show (2 : Nat) / 2 = 1 from rfl, Nat.mul_one, Nat.one_mul] at h2 h4 h5 h6
    refine ⟨h1, ?_⟩
    rw [h.par, h.num] at h5 h6
    rw [h.num] at h4
    have hmod : n % 2 = 0 ∨ n % 2 = 1 := by omega
    have hin : 1 + n % 2 + 1 ≤ F.n := by rw [h.n4]; omega
    generalize ckB ((n : Int) + 1) slot last ds = zs at h4 h5
    obtain ⟨_, k2, k3, _, _, k6⟩ := wrtH_ok h.fine (1 + n % 2) 1 zs hin (by omega)
    have hwear := wrtH_wear h.fine (1 + n % 2) zs hin (by omega)
    rw [← h5] at k2 k3 k6 hwear
    generalize (sav F 1 2 slot last ds).2 = G at *
    have o0 := k6 0 (by omega)
    have o3 := k6 3 (by omega)
    obtain ⟨u10, u11, u12⟩ := h.w1
    obtain ⟨u20, u21, u22⟩ := h.w2
    refine ⟨k2, hsm, k3.trans h.n4, fun j hj => ⟨((o0.1 j hj).1).trans (h.b0 j hj).1, ((o0.1 j hj).2).trans (h.b0 j hj).2⟩, fun j hj => ⟨((o3.1 j hj).1).trans (h.b3 j hj).1, ((o3.1 j hj).2).trans (h.b3 j hj).2⟩,
      o0.2.trans h.w0, o3.2.trans h.w3, by rw [h6]; simp, ?_, by omega, ?_, ?_, ?_⟩
    · rw [h6]
      unfold toH
      show (if (0 : Int) < (n : Int) + 1 then (1 - ((n % 2 : Nat) : Int)).toNat else 0) = _
      rw [if_pos (by omega)]
      omega
    · intro hn1 j hj
      have e : n = 0 := by omega
      subst e
      rw [((k6 2 (by omega)).1 j hj).1]
      exact h.two (by omega) j hj
    · rcases hmod with e | e
      · rw [e] at hwear
        simp only [Nat.add_zero] at hwear
        rcases hwear with hw | ⟨hu, hw⟩
        · rw [hw]; exact ⟨u10, by omega, fun _ => by rcases Nat.eq_zero_or_pos n with c | c; · have := u11 c; omega
                                                     · have := u12 c; omega⟩
        · have hn0 : n ≠ 0 := fun c => hu (used_zero (h.one c))
          have := u12 (by omega)
          rw [hw, wrap64_id (by omega) (by omega)]
          exact ⟨by omega, by omega, fun _ => by omega⟩
      · rw [(k6 1 (by omega)).2]
        exact ⟨u10, by omega, fun _ => by have := u12 (by omega); omega⟩
    · rcases hmod with e | e
      · rw [(k6 2 (by omega)).2]
        refine ⟨u20, fun c => u21 (by omega), fun c => ?_⟩
        have := u22 (by omega); omega
      · rw [e] at hwear
        rcases hwear with hw | ⟨hu, hw⟩
        · rw [show (1 + 1 : Nat) = 2 from rfl] at hw
          rw [hw]
          refine ⟨u20, by omega, fun _ => ?_⟩
          rcases Nat.lt_or_ge n 2 with c | c
          · have := u21 (by omega); omega
          · have := u22 c; omega
        · rw [show (1 + 1 : Nat) = 2 from rfl] at hw hu
          have hn1 : ¬ n ≤ 1 := fun c => hu (used_zero (h.two c))
          have := u22 (by omega)
          rw [hw, wrap64_id (by omega) (by omega)]
          exact ⟨by omega, by omega, fun _ => by omega⟩

/-- The flash on which the turns begin: a page beside on either side. -/
def tF0 (zs : List Int) : Fl := ((Fl.blank 4).put 0 0 2 (strOf (pageL zs))).put 3 5 2 (strOf (pageL zs))
theorem tF0_prog {zs : List Int} (hz : zs.length ≤ 256) : (Fl.blank 4).prog 0 0 zs = (0, (Fl.blank 4).put 0 0 2 (strOf (pageL zs))) ∧ ((Fl.blank 4).put 0 0 2 (strOf (pageL zs))).prog 3 5 zs = (0, tF0 zs) := by
  constructor
  · exact Fine.prog (F := Fl.blank 4) ⟨rfl, rfl⟩ 0 0 zs (by show 0 < 4; decide) (by decide) hz rfl
  · exact Fine.prog (F := (Fl.blank 4).put 0 0 2 (strOf (pageL zs))) ⟨rfl, rfl⟩ 3 5 zs (by show 3 < 4; decide) (by decide) hz rfl
theorem tF0_sm {zs : List Int} (hz : zs.length ≤ 256) : Sm (tF0 zs) :=
  ((sm_blank 4).put _ _ _ _ (by rw [strOf_size, pageL_len hz]; decide)).put _ _ _ _ (by rw [strOf_size, pageL_len hz]; decide)
theorem TI.begin {zs : List Int} (hz : zs.length ≤ 256) : TI (tF0 zs) (tF0 zs) 0 := by
  have e : nwk (tF0 zs) 1 1 2 = .none := nwk_none rfl rfl rfl
  refine ⟨⟨rfl, rfl⟩, tF0_sm hz, rfl, fun _ _ => ⟨rfl, rfl⟩, fun _ _ => ⟨rfl, rfl⟩, rfl, rfl, by rw [e]; rfl, by rw [e]; rfl, ?_, ?_, ⟨Int.le_refl 0, fun _ => rfl, by omega⟩, ⟨Int.le_refl 0, fun _ => rfl, by omega⟩⟩
  · intro _ j _; rfl
  · intro _ j _; rfl

theorem rowU_congr {st st' : Nat → Int} {b : Nat} : ∀ {k : Nat}, (∀ j, j < k → st j = st' j) → rowU st b k = rowU st' b k := by
  intro k
  induction k with
  | zero => intro _; rfl
  | succ k ih => intro h; rw [rowU, rowU, ih (fun j hj => h j (by omega)), h k (by omega)]

/-- What stands beside at the end. -/
theorem TI.beside {zs : List Int} {F : Fl} {n : Nat} (h : TI (tF0 zs) F n) (hby : Byt zs) :
    F.readE 0 0 = 0 ∧ F.readB 0 0 = pageL zs ∧ F.usedE 0 = 1 ∧ F.readE 3 5 = 0 ∧ F.readB 3 5 = pageL zs ∧ F.usedE 3 = 1 := by
  have hp : Byt (pageL zs) := pageL_byt hby
  have r0 : F.readE 0 0 = 0 := by
    unfold Fl.readE
    rw [if_neg (by rw [h.fine.1]; decide), if_neg (not_not_intro ⟨by decide, by rw [h.n4]; decide, by decide, by decide⟩), if_pos]
    exact (h.b0 0 (by decide)).1
  have r3 : F.readE 3 5 = 0 := by
    unfold Fl.readE
    rw [if_neg (by rw [h.fine.1]; decide), if_neg (not_not_intro ⟨by decide, by rw [h.n4]; decide, by decide, by decide⟩), if_pos]
    exact (h.b3 5 (by decide)).1
  refine ⟨r0, ?_, ?_, r3, ?_, ?_⟩
  · unfold Fl.readB
    rw [if_pos r0]
    show bytesOf (F.bs 0 0) = _
    rw [(h.b0 0 (by decide)).2]
    exact bytesOf_strOf hp
  · unfold Fl.usedE
    rw [if_pos ⟨by decide, by rw [h.n4]; decide⟩]
    show ((rowU (F.st 0) 0 16).length : Int) = 1
    rw [rowU_congr (st' := fun j => if j = 0 then 2 else 0) (fun j hj => by rw [(h.b0 j hj).1]; simp [tF0, Fl.put, Fl.setSt, Fl.setBs, Fl.blank])]
    decide
  · unfold Fl.readB
    rw [if_pos r3]
    show bytesOf (F.bs 3 5) = _
    rw [(h.b3 5 (by decide)).2]
    exact bytesOf_strOf hp
  · unfold Fl.usedE
    rw [if_pos ⟨by decide, by rw [h.n4]; decide⟩]
    show ((rowU (F.st 3) 3 16).length : Int) = 1
    rw [rowU_congr (st' := fun j => if j = 5 then 2 else 0) (fun j hj => by rw [(h.b3 j hj).1]; simp [tF0, Fl.put, Fl.setSt, Fl.setBs, Fl.blank])]
    decide
end Go.Proofs.Ytiijbklaapaheaa
