/- FormOwn's walk. -/
import Derived.Test.YthdghnppledakabOwnW
import Derived.Laws.IdiomStrings
namespace Go.Proofs.Ythdghnppledakab
open Go.RowKit

/-- A conversion of a literal's slice to its own type marks the place behind its block. -/
theorem conv_mark (w : World) (C : Array Value) (l c : Nat) : (convert 22 22 (.slice (some ⟨w.heap.size, 0, none⟩) l c)).run Try.prog (w.alloc (.cells C 5)) = .ok (.slice (some ⟨w.heap.size, 0, none⟩) l c) (w.alloc (.cells C 5 (C.size, C.size + 1))) := by
  have hsh : (w.alloc (.cells C 5)).shape? w.heap.size = some (5, C.size) := by
    have : (w.alloc (.cells C 5)).heap[w.heap.size]? = some (.cells C 5) := by
      show (w.heap.push (.cells C 5))[w.heap.size]? = _
      simp
    unfold World.shape?
    rw [this]
  have hfr : ∀ n : Nat, (w.alloc (.cells C 5)).freeze ⟨w.heap.size, n, none⟩ 1 = w.alloc (.cells C 5 (n, n + 1)) := fun n => by
    have hm : ∀ (a : Array Obj) (x : Obj) (f : Obj → Obj), (a.push x).modify a.size f = a.push (f x) := by
      intro a x f
      apply Array.ext
      · simp
      · intro i h1 h2
        simp only [Array.getElem_modify, Array.getElem_push]
        by_cases h : a.size = i
        · subst h
          simp
        · have hi : i < a.size := by simp at h1; omega
          simp [h, hi]
    unfold World.freeze
    rw [if_neg (by decide)]
    show ({ w.alloc (.cells C 5) with heap := (w.heap.push (.cells C 5)).modify w.heap.size _ } : World) = _
    rw [hm]
    rfl
  simp [convert, run_underlying Try.underlying22, run_underlying Try.underlying5, markStringish, hsh]
  exact hfr _

/-- Bytes under a marked block. -/
theorem sees_mark (w : World) (zs : List Int) (e : TypeId) (n : Nat) (m : Nat × Nat) (hn : n = zs.length) : Sees (w.alloc (.cells (ints .u8 zs).toArray e m)) .u8 (.slice (some ⟨w.heap.size, 0, none⟩) n n) zs := by
  subst hn
  refine ⟨_, zs.length, rfl, Nat.le_refl _, (fun h => by cases h), fun a h t ht => ?_⟩
  obtain rfl := Option.some.inj h
  have hadd : (⟨w.heap.size, 0, none⟩ : Addr).add t = ⟨w.heap.size, t, none⟩ := by unfold Addr.add; split <;> simp_all
  rw [hadd, World.cell?_alloc_mark]
  simp [ints, List.getD, ht]


theorem equal_yes {av bv : Value} {xs : List Int} {w : World} (ha : Sees w .u8 av xs) (hb : Sees w .u8 bv xs) (hx : Byt xs) :
    Calls Try.prog 10 #[av, bv] w fun e w' => e = .returned (.bool true) ∧ w = w' := by
  refine (equal_any av bv xs xs w ha hb hx hx).mono ?_
  rintro e w' ⟨rfl, rfl⟩
  exact ⟨by simp, rfl⟩

set_option maxHeartbeats 1600000 in
theorem formOwn_walk (bv : Value) (zs : List Int) (n : Int) (w : World) (hs : Sees w .u8 bv zs) (hby : Byt zs) (hz : zs.length ≤ 140737488351232) (hn0 : -9223372036854775808 ≤ n) (hn1 : n ≤ 9223372036854775807) :
    Calls Try.prog 3 #[bv, .int .i64 n] w fun e w' => e = .returned (.bool true) ∧ Below w.heap.size w w' := by
  obtain ⟨i0, hi, hz0, hz1, hz2⟩ := info_parts Try.info5
  have h9 := sizeL_le [n]
  simp only [List.length_singleton] at h9
  have HI := hide (I64_one n hn0 hn1)
  have HCl := hide (clone_any bv zs w hs (by omega))
  have HS := hide (fun w' (h : Below w.heap.size w w') => hs.below h)
  have htb := tb_byte zs hby
  obtain ⟨ao, cap, rfl, hlc, hnil, hc⟩ := hs
  clear hc hnil
  go_enter Try.func3, Try.ntmps3
  go_wp2_with (first
    | (go_at_call 4; refine (unhide HCl).mono ?_; rintro e w1 ⟨x1, rfl, hx1, hb1⟩)
    | (at_make; refine wpList_make_own _ rfl _ _ 22 rfl w1.heap.size 5 i0 (.int .u8 0) 1 Try.underlying22 hi hz0 hz1 _ _ _ (zs.length + 32) rfl rfl (by omega) ?b2 ?b3 (Nat.le_refl _) ?_))
  case b2 => rw [hz2]; omega
  case b3 => unfold maxLen; omega
  intro w0 hown0 hgrow0
  have hb10 : Below w1.heap.size w1 w0 := (Below.refl _ _).grown hgrow0 (Nat.le_refl _) (fun k h => by cases h)
  have hb0 : Below w.heap.size w w0 := hb1.trans (hb10.mono hb1.size)
  go_wp2_with (at_builtin; refine wpList_append_sees rfl _ _ 22 rfl w1.heap.size 5 i0 (.int .u8 0) 1 Try.underlying22 hi hz0 hz1 hz2 rfl _ _ _ rfl hown0 .u8 _ zs rfl (unhide HS w0 hb0) ?d1 ?d2 ?d3 ?_)
  case d1 => unfold maxLen; omega
  case d2 => omega
  case d3 => exact hb10.size
  intro x2 w2 ho2 hg2
  have ho2 : w2.ownsRow w1.heap.size 5 1 x2 zs.length (ints .u8 zs) := by simpa using ho2
  have hb12 : Below w1.heap.size w1 w2 := hb10.grown hg2 hb10.size (own_block_le hown0)
  have hb2 : Below w.heap.size w w2 := hb1.trans (hb12.mono hb1.size)
  have hx2 := (sees_of_own ho2).2
  have hx1 := (sees_of_own hx1).2.below hb12
  clear ho2 hg2 hown0 hgrow0 hb10 hb0 hb1 hb12 HCl
  have hcv := fun (w : World) => conv_mark w #[.int .u8 97, .int .u8 98, .int .u8 99] 3 3
  have HN := hide (num_any x2 (.slice (some ⟨w2.heap.size, 0, none⟩) 1 1) zs [n] _ (hx2.below ((Below.refl _ _).alloc (Nat.le_refl _) (.cells #[.int .i64 n] 2))) (sees_one w2 n) (by simp) (unhide HI) (by omega))
  go_wp2_with fail
  refine (unhide HN).mono ?_
  rintro e w3 ⟨x3, rfl, hx3, hb3'⟩
  have hb2a : Below w2.heap.size w2 w3 := ((Below.refl _ _).alloc (Nat.le_refl _) _).trans (hb3'.mono (by simp))
  have hb3 : Below w.heap.size w w3 := hb2.trans (hb2a.mono hb2.size)
  have g1 := hx1.below hb2a
  have g2 := hx2.below hb2a
  have g3 := (sees_of_own hx3).2
  have HX := hide (fun w' (h : Below w3.heap.size w3 w') => And.intro (g1.below h) (And.intro (g2.below h) (g3.below h)))
  have HB3 := hide hb3
  clear g1 g2 g3 hx1 hx2 hx3 hb3' hb2a hb2 HN hb3
  go_wp2_with fail
  have HBB := hide (blob_any x2 (.slice (some ⟨w3.heap.size, 0, none⟩) 3 3) zs [97, 98, 99] _ (unhide HX _ ((Below.refl _ _).alloc (Nat.le_refl _) (.cells #[.int .u8 97, .int .u8 98, .int .u8 99] 5 (3, 4)))).2.1 (sees_mark w3 [97, 98, 99] 5 3 (3, 4) rfl) (by simp; omega))
  refine (unhide HBB).mono ?_
  rintro e w4 ⟨x4, rfl, hx4, hb4⟩
  obtain ⟨L, hL⟩ : ∃ L, zs.length + sizeL [(([97, 98, 99] : List Int).length : Int)] + ([97, 98, 99] : List Int).length = L := ⟨_, rfl⟩
  rw [hL] at hx4
  obtain ⟨ao4, cp4, rfl⟩ := own_shape hx4
  have hLl : L = (zs ++ putL [(([97, 98, 99] : List Int).length : Int)] ++ [97, 98, 99]).length := by rw [List.length_append, List.length_append, putL_length]; exact hL.symm
  have hB4 : Byt (zs ++ putL [(([97, 98, 99] : List Int).length : Int)] ++ [97, 98, 99]) := (hby.append (putL_byte _)).append (by intro b hb; simp at hb; omega)
  have HV4 : Hid (Inv w3.heap.size w3 (.slice ao4 L cp4) L w4) := Inv.of hLl hx4 hB4 (by simp) ((Below.refl _ _).alloc (Nat.le_refl _) _) hb4
  have h63 : L ≤ 9223372036854775807 := by have := sizeL_le [(([97, 98, 99] : List Int).length : Int)]; simp at this hL; omega
  clear hx4 hb4 HBB hL hLl hB4
  go_wp2
  go_loopw [35] (fun c wr => ∃ k : Nat, k ≤ L ∧ c = .int .i64 k ∧ Inv w3.heap.size w3 (.slice ao4 L cp4) L wr) (fun c _ => L - (intOf c).toNat)
  case atStart => exact ⟨0, Nat.zero_le _, rfl, unhide HV4⟩
  case round =>
    obtain ⟨k, hk, rfl, hrow⟩ := hrel
    by_cases hlt : k < L
    · obtain ⟨gg, u, rfl, hu1, hu2, hu3, hu4, hu5⟩ := hrow.step (by obtain ⟨_, _, _, _, hbb⟩ := hrow; exact hbb.size) k hlt
      have HRW := hide hu5
      have hx255 := xor255 u hu2 hu3
      have HX255 := hide hx255
      clear hrow hu5 hx255
      go_wp2
      go_roundw
      case rel => exact ⟨k + 1, by omega, by go_num, unhide HRW _ (unhide HX255).1 (unhide HX255).2⟩
      case measure => simp [intOf]; omega
    · have HBR : Hid (Below w3.heap.size w3 wr) := by obtain ⟨_, _, _, _, hbb⟩ := hrow; exact hbb
      clear hrow
      have HTK := hide (takeBlob_any x2 zs wr (unhide HX wr (unhide HBR)).2.1 hby (by omega))
      obtain ⟨t1, ht1⟩ : ∃ t1, (tb zs).2.1 = t1 := ⟨_, rfl⟩
      obtain ⟨t2, ht2⟩ : ∃ t2, (tb zs).2.2 = t2 := ⟨_, rfl⟩
      obtain ⟨td, htd⟩ : ∃ td, (tb zs).1 = td := ⟨_, rfl⟩
      rw [ht1, ht2, htd] at HTK
      rw [htd] at htb
      clear ht1 ht2 htd
      go_wp2_with fail
      refine (unhide HTK).mono ?_
      rintro e w5 ⟨x5, rfl, hx5, hb5⟩
      obtain ⟨ao5, cp5, rfl⟩ := own_shape hx5
      have HV5 : Hid (Inv w3.heap.size w3 (.slice ao5 td.length cp5) td.length w5) := Inv.of rfl hx5 htb.1 (unhide HBR).size (unhide HBR) hb5
      clear hx5 hb5 HTK
      go_wp2
      go_loopw [53] (fun c wr => ∃ k : Nat, k ≤ td.length ∧ c = .int .i64 k ∧ Inv w3.heap.size w3 (.slice ao5 td.length cp5) td.length wr) (fun c _ => td.length - (intOf c).toNat)
      case atStart => exact ⟨0, Nat.zero_le _, rfl, unhide HV5⟩
      case round =>
        obtain ⟨k, hk, rfl, hrow⟩ := hrel
        by_cases hlt : k < td.length
        · obtain ⟨gg, u, rfl, hu1, hu2, hu3, hu4, hu5⟩ := hrow.step (by obtain ⟨_, _, _, _, hbb⟩ := hrow; exact hbb.size) k hlt
          have HRW := hide hu5
          have hx255 := xor255 u hu2 hu3
          have HX255 := hide hx255
          clear hrow hu5 hx255
          go_wp2
          go_roundw
          case rel => exact ⟨k + 1, by omega, by go_num, unhide HRW _ (unhide HX255).1 (unhide HX255).2⟩
          case measure => simp [intOf]; omega
        · have HBR : Hid (Below w3.heap.size w3 wr) := by obtain ⟨_, _, _, _, hbb⟩ := hrow; exact hbb
          clear hrow
          go_wp2_with fail
          refine (seal_any x2 zs wr (unhide HX wr (unhide HBR)).2.1 hby (by omega)).mono ?_
          rintro e w6 ⟨x6, er6, y6, rfl, hy6b, hy6l, hy6, hb6⟩
          obtain ⟨ao6, cp6, rfl⟩ := own_shape hy6
          have HV6 : Hid (Inv w3.heap.size w3 (.slice ao6 y6.length cp6) y6.length w6) := Inv.of rfl hy6 hy6b (unhide HBR).size (unhide HBR) hb6
          clear hy6 hb6 hy6b
          go_wp2
          go_loopw [70] (fun c wr => ∃ k : Nat, k ≤ y6.length ∧ c = .int .i64 k ∧ Inv w3.heap.size w3 (.slice ao6 y6.length cp6) y6.length wr) (fun c _ => y6.length - (intOf c).toNat)
          case atStart => exact ⟨0, Nat.zero_le _, rfl, unhide HV6⟩
          case round =>
            obtain ⟨k, hk, rfl, hrow⟩ := hrel
            by_cases hlt : k < y6.length
            · obtain ⟨gg, u, rfl, hu1, hu2, hu3, hu4, hu5⟩ := hrow.step (by obtain ⟨_, _, _, _, hbb⟩ := hrow; exact hbb.size) k hlt
              have HRW := hide hu5
              have hx255 := xor255 u hu2 hu3
              have HX255 := hide hx255
              clear hrow hu5 hx255
              go_wp2
              go_roundw
              case rel => exact ⟨k + 1, by omega, by go_num, unhide HRW _ (unhide HX255).1 (unhide HX255).2⟩
              case measure => simp [intOf]; omega
            · have HBR : Hid (Below w3.heap.size w3 wr) := by obtain ⟨_, _, _, _, hbb⟩ := hrow; exact hbb
              clear hrow
              go_wp2_with fail
              refine (live_any wr).mono ?_
              rintro e w7 ⟨rfl, hb7⟩
              have HB7 : Hid (Below w3.heap.size w3 w7) := (unhide HBR).trans (hb7.mono (unhide HBR).size)
              clear hb7
              go_wp2_with fail
              refine (equal_yes (unhide HX w7 (unhide HB7)).2.1 (unhide HX w7 (unhide HB7)).1 hby).mono ?_
              rintro e w8 ⟨rfl, rfl⟩
              have hbw : Below w.heap.size w w7 := (unhide HB3).trans ((unhide HB7).mono (unhide HB3).size)
              have HBW := hide hbw
              have HP := hide (refPut_any _ (.slice (some ⟨w7.heap.size, 0, none⟩) 1 1) zs [n] _ ((unhide HS _ hbw).below ((Below.refl _ _).alloc (Nat.le_refl _) (.cells #[.int .i64 n] 2))) (sees_one w7 n) (by simp) (unhide HI) (by omega))
              clear hbw
              go_wp2_with fail
              refine (unhide HP).mono ?_
              rintro e w9 ⟨x9, rfl, hx9, hb9⟩
              have hb79 : Below w7.heap.size w7 w9 := ((Below.refl _ _).alloc (Nat.le_refl _) _).trans (hb9.mono (by simp))
              have HE := hide (equal_yes ((unhide HX w7 (unhide HB7)).2.2.below hb79) (sees_of_own hx9).2 (hby.append (putL_byte [n])))
              have HBW9 := hide ((unhide HBW).trans (hb79.mono (unhide HBW).size))
              clear hx9 hb9 hb79 HP
              go_wp2_with fail
              refine (unhide HE).mono ?_
              rintro e w10 ⟨rfl, rfl⟩
              go_wp2
              go_ret
              exact ⟨rfl, unhide HBW9⟩

end Go.Proofs.Ythdghnppledakab
