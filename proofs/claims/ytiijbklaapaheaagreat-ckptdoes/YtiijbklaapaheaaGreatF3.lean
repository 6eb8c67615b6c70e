/- The document's flash: fuse, power, wear, reading. -/
import Derived.Test.YtiijbklaapaheaaGreatKL
namespace Go.Proofs.YtiijbklaapaheaaGreat
open Go.RowKit
set_option maxRecDepth 100000

variable {w : World} {S : Nat → Prop} {hr gp gw cp cw : Nat} {pb cb : Nat → Nat} {bv : Nat → Nat → Value} {F : Fl} {kp : Int}

theorem IsRf.hrTo (H : IsRf w S hr gp gw cp cw pb cb bv F kp) {w' : World} (hu : Upd (fun k => k = hr) w.heap.size w w') (hfr : ∀ o, w'.frozen? ⟨hr, o, none⟩ = false) (F' : Fl) (kp' : Int)
    (hn : F'.n = F.n) (hst : F'.st = F.st) (hbs : F'.bs = F.bs) (hwe : F'.wear = F.wear) (c0 : w'.cell? ⟨hr, 0, none⟩ = some (.slice (some ⟨gp, 0, none⟩) F.n cp)) (c1 : w'.cell? ⟨hr, 1, none⟩ = some (.slice (some ⟨gw, 0, none⟩) F.n cw))
    (c2 : w'.cell? ⟨hr, 2, none⟩ = some (.int .i64 F'.cnt)) (c3 : w'.cell? ⟨hr, 3, none⟩ = some (.int .i64 kp')) (c4 : w'.cell? ⟨hr, 4, none⟩ = some (.bool F'.down)) (keep : F'.cnt ≠ 0 → F'.keep = kp' % 3) (cnt0 : 0 ≤ F'.cnt) (cnt1 : F'.cnt ≤ 9223372036854775807) :
    IsRf w' S hr gp gw cp cw pb cb bv F' kp' := by
  obtain ⟨l1, l2, l3, l4⟩ := H.rlt
  have cc : ∀ b o, b < w.heap.size → b ≠ hr → w'.cell? ⟨b, o, none⟩ = w.cell? ⟨b, o, none⟩ := fun b o hb hne => hu.cell (p := ⟨b, o, none⟩) hb hne
  have ff : ∀ b o, b < w.heap.size → b ≠ hr → w'.frozen? ⟨b, o, none⟩ = w.frozen? ⟨b, o, none⟩ := fun b o hb hne => hu.frozen (p := ⟨b, o, none⟩) hb hne
  refine ⟨H.d1, H.d2, H.d3, H.s1, H.s2, H.s3, by rw [hn]; exact H.le, by rw [hn]; exact H.pos, by rw [hn]; exact H.fitp, by rw [hn]; exact H.fitw, by rw [hn]; exact c0, by rw [hn]; exact c1, c2, c3, c4, hfr, fun o => by rw [ff _ _ l2 H.d1.symm]; exact H.frP o, fun o => by rw [ff _ _ l3 H.d2.symm]; exact H.frW o,
    fun i hi => ?_, fun i hi => ?_, fun i hi => H.room i (hn ▸ hi), fun i hi => H.away i (hn ▸ hi), fun i hi j hj => ?_, fun i j hi hj => H.shape i j (hn ▸ hi) hj, fun i j hi hj h2 => ?_, keep, cnt0, cnt1, fun i j hi hj h2 => ?_, fun i j hi hj => ?_⟩
  · rw [cc _ _ l3 H.d2.symm, hwe]; exact H.wear i (hn ▸ hi)
  · rw [cc _ _ l2 H.d1.symm]; exact H.page i (hn ▸ hi)
  · have hne : pb i ≠ hr := fun c => H.away i (hn ▸ hi) (Or.inl c)
    rw [cc _ _ (l4 i (hn ▸ hi)) hne, cc _ _ (l4 i (hn ▸ hi)) hne, cc _ _ (l4 i (hn ▸ hi)) hne, hst]
    exact H.cells i (hn ▸ hi) j hj
  · rw [hbs]
    rw [hst] at h2
    exact (H.bytes i j (hn ▸ hi) hj h2).upd hu (Nat.le_refl _) (fun k _ hnk c => hnk (Or.inl c))
  · rw [hbs]; rw [hst] at h2; exact H.full i j (hn ▸ hi) hj h2
  · rw [hst]; exact H.stOk i j (hn ▸ hi) hj

theorem IsRf.setFuse (H : IsRf w S hr gp gw cp cw pb cb bv F kp) (c : Int) (h0 : 0 ≤ c) (h1 : c ≤ 9223372036854775807) (hk : c ≠ 0 → F.keep = kp % 3) : IsRf (w.setCell ⟨hr, 2, none⟩ (.int .i64 c)) S hr gp gw cp cw pb cb bv { F with cnt := c } kp :=
  H.hrTo ((Upd.refl (fun k => k = hr) w.heap.size w).setCell (p := ⟨hr, 2, none⟩) (Or.inl rfl) _) (fun o => by rw [World.frozen?_setCell]; exact H.frR o) { F with cnt := c } kp rfl rfl rfl rfl
    ((cs_other (addr_ne (Or.inr (by decide)))).trans H.c0) ((cs_other (addr_ne (Or.inr (by decide)))).trans H.c1) (cs_same H.c2) ((cs_other (addr_ne (Or.inr (by decide)))).trans H.c3) ((cs_other (addr_ne (Or.inr (by decide)))).trans H.c4) hk h0 h1
theorem IsRf.setOff (H : IsRf w S hr gp gw cp cw pb cb bv F kp) (c : Bool) : IsRf (w.setCell ⟨hr, 4, none⟩ (.bool c)) S hr gp gw cp cw pb cb bv { F with down := c } kp :=
  H.hrTo ((Upd.refl (fun k => k = hr) w.heap.size w).setCell (p := ⟨hr, 4, none⟩) (Or.inl rfl) _) (fun o => by rw [World.frozen?_setCell]; exact H.frR o) { F with down := c } kp rfl rfl rfl rfl
    ((cs_other (addr_ne (Or.inr (by decide)))).trans H.c0) ((cs_other (addr_ne (Or.inr (by decide)))).trans H.c1) ((cs_other (addr_ne (Or.inr (by decide)))).trans H.c2) ((cs_other (addr_ne (Or.inr (by decide)))).trans H.c3) (cs_same H.c4) H.keep H.cnt0 H.cnt1
/-- The fuse and its keep at once. -/
theorem IsRf.setBoth (H : IsRf w S hr gp gw cp cw pb cb bv F kp) (c k : Int) (h0 : 0 ≤ c) (h1 : c ≤ 9223372036854775807) : IsRf ((w.setCell ⟨hr, 2, none⟩ (.int .i64 c)).setCell ⟨hr, 3, none⟩ (.int .i64 k)) S hr gp gw cp cw pb cb bv { F with cnt := c, keep := k % 3 } k :=
  H.hrTo (((Upd.refl (fun k => k = hr) w.heap.size w).setCell (p := ⟨hr, 2, none⟩) (Or.inl rfl) _).setCell (p := ⟨hr, 3, none⟩) (Or.inl rfl) _) (fun o => by rw [World.frozen?_setCell, World.frozen?_setCell]; exact H.frR o) { F with cnt := c, keep := k % 3 } k rfl rfl rfl rfl
    (by rw [cs_other (addr_ne (Or.inr (by decide))), cs_other (addr_ne (Or.inr (by decide)))]; exact H.c0) (by rw [cs_other (addr_ne (Or.inr (by decide))), cs_other (addr_ne (Or.inr (by decide)))]; exact H.c1)
    (by rw [cs_other (addr_ne (Or.inr (by decide)))]; exact cs_same H.c2) (cs_same ((cs_other (addr_ne (Or.inr (by decide)))).trans H.c3)) (by rw [cs_other (addr_ne (Or.inr (by decide))), cs_other (addr_ne (Or.inr (by decide)))]; exact H.c4) (fun _ => rfl) h0 h1
/-- keep is of no account without a fuse. -/
theorem IsRf.anyKeep (H : IsRf w S hr gp gw cp cw pb cb bv F kp) (k : Int) (hc : F.cnt = 0) : IsRf w S hr gp gw cp cw pb cb bv { F with keep := k } kp :=
  H.hrTo (Upd.refl _ _ _) H.frR { F with keep := k } kp rfl rfl rfl rfl H.c0 H.c1 H.c2 H.c3 H.c4 (fun h => absurd hc h) H.cnt0 H.cnt1

abbrev OnlyRf (hr gp gw : Nat) : Nat → Prop := fun k => k = hr ∨ k = gp ∨ k = gw

set_option maxHeartbeats 400000 in
theorem rburn_no (H : IsRf w S hr gp gw cp cw pb cb bv F kp) (hc : F.cnt = 0) :
    Calls Tryz.prog 51 #[P0 hr] w fun e w' => e = .returned (.bool false) ∧ w = w' := by
  have h1 := H.c2; rw [hc] at h1
  clear H hc
  go_enter Tryz.func51, Tryz.ntmps51
  go_wp2
  go_ret
  exact ⟨rfl, rfl⟩

set_option maxHeartbeats 400000 in
theorem rburn_one (H : IsRf w S hr gp gw cp cw pb cb bv F kp) (hc : F.cnt = 1) :
    Calls Tryz.prog 51 #[P0 hr] w fun e w' => e = .returned (.bool true) ∧ IsRf w' S hr gp gw cp cw pb cb bv { F with cnt := 0, down := true } kp ∧ Upd (OnlyRf hr gp gw) w.heap.size w w' := by
  have h1 := H.c2; rw [hc] at h1
  have h4 := H.c4; have hf := H.frR
  have HI := hide ((H.setFuse 0 (by decide) (by decide) (fun h => absurd rfl h)).setOff true)
  clear H hc
  go_enter Tryz.func51, Tryz.ntmps51
  go_wp2
  go_ret
  exact ⟨rfl, unhide HI, ((Upd.refl _ _ _).setCell (Or.inl (Or.inl rfl)) _).setCell (Or.inl (Or.inl rfl)) _⟩

set_option maxHeartbeats 400000 in
theorem rburn_more (H : IsRf w S hr gp gw cp cw pb cb bv F kp) (hc : 1 < F.cnt) :
    Calls Tryz.prog 51 #[P0 hr] w fun e w' => e = .returned (.bool false) ∧ IsRf w' S hr gp gw cp cw pb cb bv { F with cnt := F.cnt - 1 } kp ∧ Upd (OnlyRf hr gp gw) w.heap.size w w' := by
  have h1 := H.c2; have hm := H.cnt1
  have hf := H.frR
  have HI := hide (H.setFuse (F.cnt - 1) (by omega) (by omega) (fun _ => H.keep (by omega)))
  obtain ⟨c, hcc⟩ : ∃ c, F.cnt = c := ⟨_, rfl⟩
  rw [hcc] at h1 HI hc hm ⊢
  clear H hcc
  go_enter Tryz.func51, Tryz.ntmps51
  go_wp2
  go_ret
  exact ⟨rfl, unhide HI, (Upd.refl _ _ _).setCell (Or.inl (Or.inl rfl)) _⟩

def Fl.fuse (F : Fl) (c k : Int) : Int × Fl := if F.down = true then (7, F) else if c < 1 then (1, F) else (0, { F with cnt := c, keep := k % 3 })
def Fl.crash (F : Fl) : Int × Fl := if F.down = true then (7, F) else (0, F.fall)
def Fl.restart (F : Fl) : Int × Fl := if F.down = true then (0, { F with down := false }) else (1, F)

set_option maxHeartbeats 400000 in
theorem rfuse_any (H : IsRf w S hr gp gw cp cw pb cb bv F kp) (c k : Int) (hcm : c ≤ 9223372036854775807) :
    Calls Tryz.prog 18 #[P0 hr, .int .i64 c, .int .i64 k] w fun e w' => ∃ kp', e = .returned (.int .i64 (F.fuse c k).1) ∧ IsRf w' S hr gp gw cp cw pb cb bv (F.fuse c k).2 kp' ∧ Upd (OnlyRf hr gp gw) w.heap.size w w' := by
  have h4 := H.c4; have h2 := H.c2; have h3 := H.c3; have hf := H.frR
  unfold Fl.fuse
  by_cases hd : F.down = true
  · rw [if_pos hd]
    have HH := hide H
    rw [hd] at h4
    clear H hd
    go_enter Tryz.func18, Tryz.ntmps18
    go_wp2
    go_ret
    exact ⟨kp, rfl, unhide HH, Upd.refl _ _ _⟩
  rw [if_neg hd]
  have hd' : F.down = false := by simpa using hd
  rw [hd'] at h4
  clear hd hd'
  by_cases hc : c < 1
  · rw [if_pos hc]
    have HH := hide H
    clear H
    go_enter Tryz.func18, Tryz.ntmps18
    go_wp2
    go_ret
    exact ⟨kp, rfl, unhide HH, Upd.refl _ _ _⟩
  · rw [if_neg hc]
    have HH := hide (H.setBoth c k (by omega) hcm)
    clear H
    go_enter Tryz.func18, Tryz.ntmps18
    go_wp2
    go_ret
    exact ⟨rfl, ⟨k, unhide HH⟩, ((Upd.refl _ _ _).setCell (Or.inl (Or.inl rfl)) _).setCell (Or.inl (Or.inl rfl)) _⟩

set_option maxHeartbeats 400000 in
theorem rcrash_any (H : IsRf w S hr gp gw cp cw pb cb bv F kp) :
    Calls Tryz.prog 20 #[P0 hr] w fun e w' => e = .returned (.int .i64 F.crash.1) ∧ IsRf w' S hr gp gw cp cw pb cb bv F.crash.2 kp ∧ Upd (OnlyRf hr gp gw) w.heap.size w w' := by
  have h4 := H.c4; have h2 := H.c2; have hf := H.frR
  unfold Fl.crash
  by_cases hd : F.down = true
  · rw [if_pos hd]
    have HH := hide H
    rw [hd] at h4
    clear H hd
    go_enter Tryz.func20, Tryz.ntmps20
    go_wp2
    go_ret
    exact ⟨rfl, unhide HH, Upd.refl _ _ _⟩
  · rw [if_neg hd]
    have hd' : F.down = false := by simpa using hd
    rw [hd'] at h4
    have HH := hide (((H.setOff true).setFuse 0 (by decide) (by decide) (fun h => absurd rfl h)).anyKeep 0 rfl)
    clear H hd hd'
    go_enter Tryz.func20, Tryz.ntmps20
    go_wp2
    go_ret
    exact ⟨rfl, unhide HH, ((Upd.refl _ _ _).setCell (Or.inl (Or.inl rfl)) _).setCell (Or.inl (Or.inl rfl)) _⟩

set_option maxHeartbeats 400000 in
theorem rrestart_any (H : IsRf w S hr gp gw cp cw pb cb bv F kp) :
    Calls Tryz.prog 22 #[P0 hr] w fun e w' => e = .returned (.int .i64 F.restart.1) ∧ IsRf w' S hr gp gw cp cw pb cb bv F.restart.2 kp ∧ Upd (OnlyRf hr gp gw) w.heap.size w w' := by
  have h4 := H.c4; have hf := H.frR
  unfold Fl.restart
  by_cases hd : F.down = true
  · rw [if_pos hd]
    have HH := hide (H.setOff false)
    rw [hd] at h4
    clear H hd
    go_enter Tryz.func22, Tryz.ntmps22
    go_wp2
    go_ret
    exact ⟨rfl, unhide HH, (Upd.refl _ _ _).setCell (Or.inl (Or.inl rfl)) _⟩
  · rw [if_neg hd]
    have hd' : F.down = false := by simpa using hd
    rw [hd'] at h4
    have HH := hide H
    clear H hd hd'
    go_enter Tryz.func22, Tryz.ntmps22
    go_wp2
    go_ret
    exact ⟨rfl, unhide HH, Upd.refl _ _ _⟩

def Fl.wearE (F : Fl) (i : Int) : Int := if 0 ≤ i ∧ i < F.n then F.wear i.toNat else 0

theorem fwear_any {g h cap : Nat} (H : IsFl w g h cap F) (i : Int) :
    Calls Tryz.prog 30 #[P0 h, .int .i64 i] w fun e w' => e = .returned (.int .i64 (F.wearE i)) ∧ w = w' := by
  unfold Fl.wearE
  by_cases hi : 0 ≤ i ∧ i < F.n
  · rw [if_pos hi]
    obtain ⟨i, rfl⟩ := nat_of hi.1
    rw [Int.toNat_natCast]
    exact wear_any H i (by omega)
  · rw [if_neg hi]
    exact wear_out H i hi

theorem atE_eq (H : IsRf w S hr gp gw cp cw pb cb bv F kp) (i j : Nat) (hi : i < F.n) (hj : j < 16) (hd : F.down = false) : F.readE i j = F.atE i j := by
  have hw : F.within i j := ⟨by omega, by omega, by omega, by omega⟩
  unfold Fl.readE Fl.atE
  rw [hd, if_neg (by decide), if_neg (not_not_intro hw), Int.toNat_natCast, Int.toNat_natCast]
  rcases H.stOk i j hi hj with hs | hs | hs <;> rw [hs] <;> rfl

end Go.Proofs.YtiijbklaapaheaaGreat
