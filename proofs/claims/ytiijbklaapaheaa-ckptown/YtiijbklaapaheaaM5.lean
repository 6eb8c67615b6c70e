/- Contracts of Program, Read, Erase, SetFuse, Crash, Restart, Down. -/
import Derived.Test.YtiijbklaapaheaaM3
import Derived.Test.YtiijbklaapaheaaM4
namespace Go.Proofs.Ytiijbklaapaheaa
open Go.RowKit
set_option maxRecDepth 100000

def bytesOf (s : ByteArray) : List Int := s.data.toList.map fun b => (b.toNat : Int)
theorem bytesOf_byt (s : ByteArray) : Byt (bytesOf s) := by
  intro b hb
  simp only [bytesOf, List.mem_map] at hb
  obtain ⟨x, _, rfl⟩ := hb
  have := x.toNat_lt
  omega
theorem bytesOf_length (s : ByteArray) : (bytesOf s).length = s.size := by unfold bytesOf; rw [List.length_map]; rfl
theorem bytesOf_strOf {zs : List Int} (h : Byt zs) : bytesOf (strOf zs) = zs := by
  simp only [bytesOf, strOf, List.map_map]
  conv => rhs; rw [← List.map_id zs]
  refine List.map_congr_left fun x hx => ?_
  have := h x hx
  simp
  omega

/-- Bytes in a block of the call's own. -/
def Own8 (B : Nat) (w : World) (x : Value) (ys : List Int) : Prop :=
  ∃ g cap, x = .slice (some ⟨g, 0, none⟩) ys.length cap ∧ ys.length ≤ cap ∧ B ≤ g ∧ (∀ t, t < ys.length → w.cell? ⟨g, t, none⟩ = some (.int .u8 (ys.getD t 0))) ∧ ∀ t, t < ys.length → w.frozen? ⟨g, t, none⟩ = false

theorem Own8.sees {B : Nat} {w : World} {x : Value} {ys : List Int} (h : Own8 B w x ys) : Sees w .u8 x ys := by
  obtain ⟨g, cap, rfl, h1, _, h2, _⟩ := h
  refine ⟨_, cap, rfl, h1, (fun e => by cases e), fun a e t ht => ?_⟩
  obtain rfl := Option.some.inj e
  have hadd : (⟨g, 0, none⟩ : Addr).add t = ⟨g, t, none⟩ := by unfold Addr.add; split <;> simp_all
  rw [hadd]; exact h2 t ht

theorem own8_new (w : World) (s : ByteArray) (cap : Nat) (hc : s.size ≤ cap) (hz : (bytesRow s cap).size = cap) : Own8 w.heap.size (w.drew.alloc (.cells (bytesRow s cap) 5 ((bytesRow s cap).size, (bytesRow s cap).size + 1))) (.slice (some ⟨w.heap.size, 0, none⟩) s.size cap) (bytesOf s) := by
  have hl := bytesOf_length s
  refine ⟨w.heap.size, cap, by rw [hl], by omega, Nat.le_refl _, fun t ht => ?_, fun t ht => ?_⟩
  · have := World.cell?_alloc_mark w.drew (bytesRow s cap) 5 ((bytesRow s cap).size, (bytesRow s cap).size + 1) t
    refine this.trans ?_
    have ht' : t < s.data.size := by rw [hl] at ht; exact ht
    rw [bytesRow_at s cap t ht']
    unfold bytesOf
    rw [List.getD_eq_getElem?_getD, List.getElem?_map, Array.getElem?_toList, Array.getElem?_eq_getElem ht']
    rfl
  · have := World.frozen?_alloc_mark w.drew (bytesRow s cap) 5 (bytesRow s cap).size ((bytesRow s cap).size + 1) t
    refine this.trans ?_
    rw [hz]
    simp
    omega

theorem row_size (s : ByteArray) (cap : Nat) (h : s.size ≤ cap) : (bytesRow s cap).size = cap := by
  unfold bytesRow
  rw [Array.size_append, Array.size_map, Array.size_replicate]
  have : s.data.size = s.size := rfl
  omega

set_option maxHeartbeats 400000 in
theorem read_ok {g h cap : Nat} {F : Fl} {w : World} (H : IsFl w g h cap F) (hd : F.down = false) (i j : Nat) (hi : i < F.n) (hj : j < 16) (hs : F.st i j = 2) :
    Calls Try.prog 22 #[P0 h, .int .i64 i, .int .i64 j] w fun e w' => ∃ x, e = .returned (.tuple #[x, .int .i64 0]) ∧ Own8 w.heap.size w' x (bytesOf (F.bs i j)) ∧ Below w.heap.size w w' := by
  have HF := hide (find_yes H hd i j hi hj)
  have h1 := H.st i j hi hj; rw [hs] at h1
  have h2 := H.bs i j hi hj
  have hv := run_bytes_of_string (P := Try.prog) w 9 22 5 (F.bs i j) Try.underlying9 Try.underlying22 Try.underlying5
  clear H hs
  go_enter Try.func22, Try.ntmps22
  go_wp2_with (first
    | (go_at_call 50; refine (unhide HF).mono ?_; rintro e w' ⟨rfl, rfl⟩))
  go_ret2
  have hge := grownCap_ge w (F.bs i j).size 0 5
  exact ⟨_, rfl, own8_new w (F.bs i j) _ hge (row_size _ _ hge), ((Below.refl _ _).alloc (Nat.le_refl _) _).drew⟩

set_option maxHeartbeats 400000 in
theorem read_not {g h cap : Nat} {F : Fl} {w : World} (H : IsFl w g h cap F) (hd : F.down = false) (i j : Nat) (hi : i < F.n) (hj : j < 16) (hs : F.st i j ≠ 2) :
    Calls Try.prog 22 #[P0 h, .int .i64 i, .int .i64 j] w fun e w' => e = .returned (.tuple #[.slice none 0 0, .int .i64 (if F.st i j = 1 then 22 else 21)]) ∧ w = w' := by
  have HF := hide (find_yes H hd i j hi hj)
  have h1 := H.st i j hi hj
  have HM := hide (missing_any g (i * 33 + j * 2) (F.st i j) w h1)
  obtain ⟨er, her⟩ : ∃ er : Int, (if F.st i j = 1 then 22 else 21) = er := ⟨_, rfl⟩
  rw [her] at HM ⊢
  clear H her
  go_enter Try.func22, Try.ntmps22
  go_wp2_with (first
    | (go_at_call 50; refine (unhide HF).mono ?_; rintro e w' ⟨rfl, rfl⟩)
    | (go_at_call 54; refine (unhide HM).mono ?_; rintro e w' ⟨rfl, rfl⟩))
  go_ret2
  exact ⟨rfl, rfl⟩

set_option maxHeartbeats 400000 in
/-- Where 'find' answers an error, so do Read, Program, Erase. -/
theorem read_err {v : Value} {i j er : Int} {w : World} (he : er ≠ 0) (HF : Calls Try.prog 50 #[v, .int .i64 i, .int .i64 j] w fun e w' => e = .returned (.tuple #[.pointer none, .int .i64 er]) ∧ w = w') :
    Calls Try.prog 22 #[v, .int .i64 i, .int .i64 j] w fun e w' => e = .returned (.tuple #[.slice none 0 0, .int .i64 er]) ∧ w = w' := by
  have HF := hide HF
  go_enter Try.func22, Try.ntmps22
  go_wp2_with (first
    | (go_at_call 50; refine (unhide HF).mono ?_; rintro e w' ⟨rfl, rfl⟩))
  go_ret2
  exact ⟨rfl, rfl⟩

set_option maxHeartbeats 400000 in
theorem prog_err {v bv : Value} {i j er : Int} {w : World} (he : er ≠ 0) (HF : Calls Try.prog 50 #[v, .int .i64 i, .int .i64 j] w fun e w' => e = .returned (.tuple #[.pointer none, .int .i64 er]) ∧ w = w') :
    Calls Try.prog 21 #[v, .int .i64 i, .int .i64 j, bv] w fun e w' => e = .returned (.int .i64 er) ∧ Below w.heap.size w w' := by
  have HF := hide HF
  go_enter Try.func21, Try.ntmps21
  go_wp2_with (first
    | (go_at_call 50; refine (unhide HF).mono ?_; rintro e w' ⟨rfl, rfl⟩))
  go_ret
  exact ⟨rfl, (Below.refl _ _).alloc (Nat.le_refl _) _⟩

set_option maxHeartbeats 400000 in
theorem erase_err {v : Value} {i er : Int} {w : World} (he : er ≠ 0) (HF : Calls Try.prog 50 #[v, .int .i64 i, .int .i64 0] w fun e w' => e = .returned (.tuple #[.pointer none, .int .i64 er]) ∧ w = w') :
    Calls Try.prog 94 #[v, .int .i64 i] w fun e w' => e = .returned (.int .i64 er) ∧ w = w' := by
  have HF := hide HF
  go_enter Try.func94, Try.ntmps94
  go_wp2_with (first
    | (go_at_call 50; refine (unhide HF).mono ?_; rintro e w' ⟨rfl, rfl⟩))
  go_ret
  exact ⟨rfl, rfl⟩

set_option maxHeartbeats 400000 in
theorem prog_long {g h cap : Nat} {F : Fl} {w : World} (H : IsFl w g h cap F) (hd : F.down = false) (i j : Nat) (hi : i < F.n) (hj : j < 16) (ao : Option Addr) (n c : Nat) (hl : 256 < n) :
    Calls Try.prog 21 #[P0 h, .int .i64 i, .int .i64 j, .slice ao n c] w fun e w' => e = .returned (.int .i64 1) ∧ Below w.heap.size w w' := by
  have HF := hide (find_yes H hd i j hi hj)
  clear H
  go_enter Try.func21, Try.ntmps21
  go_wp2_with (first
    | (go_at_call 50; refine (unhide HF).mono ?_; rintro e w' ⟨rfl, rfl⟩))
  go_ret
  exact ⟨rfl, (Below.refl _ _).alloc (Nat.le_refl _) _⟩

set_option maxHeartbeats 400000 in
theorem prog_used {g h cap : Nat} {F : Fl} {w : World} (H : IsFl w g h cap F) (hd : F.down = false) (i j : Nat) (hi : i < F.n) (hj : j < 16) (ao : Option Addr) (n c : Nat) (hl : n ≤ 256) (hs : F.st i j ≠ 0) :
    Calls Try.prog 21 #[P0 h, .int .i64 i, .int .i64 j, .slice ao n c] w fun e w' => e = .returned (.int .i64 20) ∧ Below w.heap.size w w' := by
  have HF := hide (find_yes H hd i j hi hj)
  have h1 := H.st i j hi hj
  have hg := H.glt
  clear H
  go_enter Try.func21, Try.ntmps21
  go_wp2_with (first
    | (go_at_call 50; refine (unhide HF).mono ?_; rintro e w' ⟨rfl, rfl⟩))
  go_ret
  exact ⟨rfl, (Below.refl _ _).alloc (Nat.le_refl _) _⟩

abbrev putA (i j : Nat) : Fl → Int → ByteArray → Fl := fun (F : Fl) (s : Int) (b : ByteArray) => F.put i j s b
abbrev anewA (i : Nat) : Fl → Int → ByteArray → Fl := fun (F : Fl) (s : Int) (b : ByteArray) => F.anew i s b

set_option maxHeartbeats 800000 in
theorem prog_ok {g h cap : Nat} {F : Fl} {w : World} (H : IsFl w g h cap F) (hc0 : 0 ≤ F.cnt) (hm : F.cnt ≤ 9223372036854775807) (hd : F.down = false) (i j : Nat) (hi : i < F.n) (hj : j < 16) (bv : Value) (zs : List Int) (hz : Sees w .u8 bv zs) (hby : Byt zs) (hl : zs.length ≤ 256) (hs : F.st i j = 0) :
    Calls Try.prog 21 #[P0 h, .int .i64 i, .int .i64 j, bv] w fun e w' => e = .returned (.int .i64 F.code) ∧ IsFl w' g h cap (F.changed (putA i j) 2 (strOf (pageL zs))) ∧ Upd (Two g h) w.heap.size w w' := by
  have HF := hide (find_yes H hd i j hi hj)
  have h1 := H.st i j hi hj; rw [hs] at h1
  have hg := H.glt
  have hh := H.hlt
  have HH := hide H
  have hsz : w.heap.size ≤ (w.alloc (.cells #[.pointer (some ⟨g, i * 33 + j * 2, none⟩)] 95)).heap.size := by simp
  have HFL := hide (filled_any bv zs _ (hz.below ((Below.refl _ _).alloc (Nat.le_refl _) (.cells #[.pointer (some ⟨g, i * 33 + j * 2, none⟩)] 95))) hby hl)
  have HC : Hid (∀ w1, Below (w.alloc (.cells #[.pointer (some ⟨g, i * 33 + j * 2, none⟩)] 95)).heap.size (w.alloc (.cells #[.pointer (some ⟨g, i * 33 + j * 2, none⟩)] 95)) w1 →
      Calls Try.prog 51 #[P0 h, .agg #[.int .i64 2, .string (strOf (pageL zs))], .func (.func 53) #[] #[P0 w.heap.size]] w1 fun e w' => e = .returned (.int .i64 F.code) ∧ IsFl w' g h cap (F.changed (putA i j) 2 (strOf (pageL zs))) ∧ Upd (Two g h) w.heap.size w w') := by
    intro w1 hb
    have hI : IsFl w1 g h cap F := (H.alloc _).below hb
    have hcb : w1.cell? ⟨w.heap.size, 0, none⟩ = some (.pointer (some ⟨g, i * 33 + j * 2, none⟩)) := (hb.cell (p := ⟨w.heap.size, 0, none⟩) (by simp)).trans (World.cell?_alloc_mark w #[.pointer (some ⟨g, i * 33 + j * 2, none⟩)] 95 (0, 0) 0)
    refine (change_put hI hc0 hm w.heap.size i j hi hj hcb (by omega) (by omega) 2 (strOf (pageL zs))).mono ?_
    rintro e w' ⟨rfl, a, b⟩
    have hs1 := hb.size
    exact ⟨rfl, a, (((Upd.refl _ _ _).alloc (Nat.le_refl _) _).trans (Upd.of (hb.mono hsz))).trans (b.less (by omega))⟩
  obtain ⟨ao, cp, rfl, _⟩ := hz
  clear H hs
  go_enter Try.func21, Try.ntmps21
  go_wp2_with (first
    | (go_at_call 50; refine (unhide HF).mono ?_; rintro e w' ⟨rfl, rfl⟩)
    | (go_at_call 52; refine (unhide HFL).mono ?_; rintro e w1 ⟨rfl, hb1⟩; have HC1 := hide (unhide HC w1 hb1); clear hb1)
    | (go_at_call 51; refine (unhide HC1).mono ?_; rintro e w2 ⟨rfl, hI2, hU2⟩))
  go_ret
  exact ⟨rfl, hI2, hU2⟩

set_option maxHeartbeats 800000 in
theorem erase_ok {g h cap : Nat} {F : Fl} {w : World} (H : IsFl w g h cap F) (hc0 : 0 ≤ F.cnt) (hm : F.cnt ≤ 9223372036854775807) (hd : F.down = false) (i : Nat) (hi : i < F.n) :
    Calls Try.prog 94 #[P0 h, .int .i64 i] w fun e w' => e = .returned (.int .i64 F.code) ∧ IsFl w' g h cap (F.changed (anewA i) 0 ⟨#[]⟩) ∧ Upd (Two g h) w.heap.size w w' := by
  have HF := hide (find_yes H hd i 0 hi (by omega))
  have h1 := H.ptr; have h2 := H.fit
  have hg := H.glt
  have hh := H.hlt
  have HC : Hid (Calls Try.prog 51 #[P0 h, .agg #[.int .i64 0, .string ⟨#[]⟩], .func (.func 105) #[] #[P0 w.heap.size]] (w.alloc (.cells #[.pointer (some ⟨g, i * 33, none⟩)] 169)) fun e w' => e = .returned (.int .i64 F.code) ∧ IsFl w' g h cap (F.changed (anewA i) 0 ⟨#[]⟩) ∧ Upd (Two g h) w.heap.size w w') := by
    have hcb := World.cell?_alloc_mark w #[.pointer (some ⟨g, i * 33, none⟩)] 169 (0, 0) 0
    refine (change_anew (H.alloc (.cells #[.pointer (some ⟨g, i * 33, none⟩)] 169)) hc0 hm w.heap.size i hi hcb (by omega) (by omega) 0 ⟨#[]⟩).mono ?_
    rintro e w' ⟨rfl, a, b⟩
    exact ⟨rfl, a, ((Upd.refl _ _ _).alloc (Nat.le_refl _) _).trans (b.less (by simp))⟩
  clear H
  go_enter Try.func94, Try.ntmps94
  go_wp2_with (first
    | (go_at_call 50; refine (unhide HF).mono ?_; rintro e w' ⟨rfl, rfl⟩)
    | (go_at_call 51; refine (unhide HC).mono ?_; rintro e w2 ⟨rfl, hI2, hU2⟩))
  go_ret
  exact ⟨rfl, hI2, hU2⟩

end Go.Proofs.Ytiijbklaapaheaa
