/- FormWhole's walk. -/
import Derived.Test.YthdghnppledakaaWholeM
import Derived.Test.YthdghnppledakaaWJ
import Derived.Test.YthdghnppledakaaAB
import Derived.Test.YthdghnppledakaaSealsW
namespace Go.Proofs.Ythdghnppledakaa
open Go.RowKit

set_option maxHeartbeats 1600000 in
theorem formWhole_walk (bv dv : Value) (zs ds : List Int) (n : Nat) (w : World) (hs : Sees w .u8 bv zs) (hd : Sees w .u8 dv ds) (hby : Byt zs) (hdb : Byt ds) (hz : zs.length ≤ 1048576) (hdl : ds.length ≤ 140737488351232) (hn : n ≤ 65535) :
    Calls Try.prog 8 #[bv, dv, .int .u16 n] w fun e w' => e = .returned (.bool true) ∧ Below w.heap.size w w' := by
  obtain ⟨i0, hi, hz0, hz1, hz2⟩ := info_parts Try.info5
  have HS := hide (seal_ok bv zs w hs hby hz)
  have hsb := sealB_byte zs hby
  have hsl := sealB_length zs
  have hw8 := wid_le (mag (zs.length : Int))
  have HW := hide (fun (v : Value) (w' : World) (h : Sees w' .u8 v (sealB zs ++ ds)) => unseal_any v _ w' h (hsb.append hdb) (by rw [List.length_append]; omega))
  have HTW := hide (tu_whole zs ds hz)
  have HTC := hide (fun m hm => tu_cut zs hz m hm)
  have HTD := hide (fun q hq y y0 y1 hy => tu_changed zs hz hby q hq y y0 y1 hy)
  have HE := hide (fun (xv : Value) (w' : World) (hx : Sees w' .u8 xv zs) (h : Below w.heap.size w w') => equal_same xv bv zs w' hx (hs.below h) hby)
  have HD := hide (fun (w' : World) (h : Below w.heap.size w w') => hd.below h)
  have HSB := hide hsb
  clear hd hsb
  obtain ⟨ao, cap, rfl, hlc, hnil, hc⟩ := hs
  clear hc hnil
  generalize hk : wid (mag (zs.length : Int)) = k at *
  clear hk
  generalize hB : sealB zs = B at *
  clear hB
  have HSL := hide hsl
  have hL1 : zs.length + 9 ≤ B.length := by omega
  have hL2 : B.length ≤ 1048600 := by omega
  clear hsl
  go_enter Try.func8, Try.ntmps8
  go_wp2_with (go_at_call 23; refine (unhide HS).mono ?_; rintro e w1 ⟨f, rfl, hf, hb1⟩)
  have hf' := hf
  rcases hf'.2 with ⟨_, hn0⟩ | ⟨g, cp, cur, rfl, hgb, hg, hnc, hcm, hcs, htake⟩
  · omega
  clear hf' hcs htake
  go_wp2_with (go_at_call 11; refine (live_any w1).mono ?_; rintro e w2 ⟨rfl, hb2'⟩)
  have hb2 : Below w.heap.size w w2 := hb1.trans (hb2'.mono hb1.size)
  have hf2 := own_below hf hb2'
  have HCl := hide (clone_any _ B w2 (sees_of_own hf2).2 (by omega))
  clear hf hg hb2' hb1 cur
  go_wp2_with (first
    | (go_at_call 29; refine (unhide HCl).mono ?_; rintro e w3 ⟨x3, rfl, hx3, hb3'⟩; have hb3 : Below w.heap.size w w3 := hb2.trans (hb3'.mono hb2.size))
    | (at_builtin; refine wpList_append_big rfl _ _ 22 rfl w2.heap.size 5 i0 (.int .u8 0) Try.underlying22 hi hz0 hz1 hz2 rfl _ _ _ rfl hx3 .u8 _ ds rfl (unhide HD w3 hb3) ?d2 ?d3 ?_))
  case d2 => omega
  case d3 => exact hb3'.size
  intro x4 w4 ho4 hg4
  have hb24 : Below w2.heap.size w2 w4 := hb3'.grown hg4 hb3'.size (own_block_le hx3)
  have hs4 : Sees w4 .u8 x4 (B ++ ds) := by rw [← ints_append] at ho4; exact (sees_of_own ho4).2
  have HU4 := unhide HW x4 w4 hs4
  rw [HTW.out] at HU4
  dsimp only at HU4
  have HU4 := hide HU4
  have hf4 := own_below hf2 hb24
  have hb4 : Below w.heap.size w w4 := hb2.trans (hb24.mono hb2.size)
  clear ho4 hg4 hx3 hb3 hb3' hf2 hb24 hb2 HCl hs4 HW HD
  go_wp2_with (go_at_call 25; refine (unhide HU4).mono ?_; rintro e w5 ⟨x5, rfl, ho5, hb5'⟩)
  have hb5 : Below w.heap.size w w5 := hb4.trans (hb5'.mono hb4.size)
  have hx5 := (sees_of_own ho5).2
  have hf5 := own_below hf4 hb5'
  have HEq := hide (unhide HE x5 w5 hx5 hb5)
  clear ho5 hb5' hx5 hf4 hb4 HE HU4
  have hmN : n % B.length < B.length := Nat.mod_lt _ (by omega)
  have hmC : (n : Int) % (B.length : Int) ≤ cp := by rw [← Int.natCast_emod]; omega
  have hm0 : 0 ≤ (n : Int) % (B.length : Int) := by rw [← Int.natCast_emod]; omega
  have hct : Sees w5 .u8 (.slice (some ⟨g, 0, none⟩) (n % B.length) cp) (B.take (n % B.length)) := by
    have h1 := ((sees_of_own hf5).2.upto.cut 0 (n % B.length) (by omega)).sees
    simpa [Addr.add] using h1
  have HU5 := unseal_any _ _ w5 hct ((unhide HSB).take _) (by rw [List.length_take]; omega)
  rw [(unhide HTC) _ hmN] at HU5
  have HU5 := hide HU5
  clear hct HTC HTW
  go_wp2_with (go_at_call 12; refine (unhide HEq).mono ?_; rintro e w5' ⟨rfl, rfl⟩)
  refine (unhide HU5).mono ?_
  rintro e w6 ⟨x6, rfl, ho6, hb6'⟩
  have hb6 : Below w.heap.size w w6 := hb5.trans (hb6'.mono hb5.size)
  have hf6 := own_below hf5 hb6'
  clear ho6 hb6' hf5 hb5 HEq HU5 hmN hmC hm0
  have hq := Nat.mod_lt n (show 0 < zs.length + 8 by omega)
  have hwr : wrap64 ((B.length : Int) - (zs.length : Int) - 8 + (n : Int) % ((zs.length : Int) + 8)) = ((1 + k + n % (zs.length + 8) : Nat) : Int) := by
    have e1 : (n : Int) % ((zs.length : Int) + 8) = ((n % (zs.length + 8) : Nat) : Int) := by simp
    have e2 := HSL.out
    rw [e1]
    generalize n % (zs.length + 8) = q at *
    unfold wrap64
    omega
  have HQ := hide ((unhide HTD) _ hq)
  have hpl : 1 + k + n % (zs.length + 8) < B.length := by have := HSL.out; omega
  clear HTD hq
  generalize hp : 1 + k + n % (zs.length + 8) = p at *
  clear hp
  have hcell : w6.cell? ⟨g, p, none⟩ = some (.int .u8 (B.getD p 0)) := by
    have := hf6.cells (g := g) rfl p (.int .u8 (B.getD p 0)) (by simp [ints, List.getD, hpl])
    have hadd : (⟨g, 0, none⟩ : Addr).add p = ⟨g, p, none⟩ := by unfold Addr.add; split <;> simp_all
    rw [hadd] at this
    exact this
  have hfz := hf6.frozenAt p
  obtain ⟨hu0, hu1⟩ := (unhide HSB).get p
  generalize B.getD p 0 = u at *
  have hx := u8_xor u (1 + (n : Int) % 255) hu0 (by omega) (by omega) (by omega)
  have hxl : u.toNat ^^^ (1 + (n : Int) % 255).toNat < 2 ^ 8 := Nat.xor_lt_two_pow (by omega) (by omega)
  have hy0 : 0 ≤ bits .xor .u8 u (1 + (n : Int) % 255) := by rw [hx]; exact Int.natCast_nonneg _
  have hy1 : bits .xor .u8 u (1 + (n : Int) % 255) ≤ 255 := by rw [hx]; omega
  have hyu : bits .xor .u8 u (1 + (n : Int) % 255) ≠ u := by
    rw [hx]
    intro e
    have e2 : u.toNat ^^^ (1 + (n : Int) % 255).toNat = u.toNat ^^^ 0 := by rw [Nat.xor_zero]; omega
    have := nat_xor_cancel_left _ _ _ e2
    omega
  clear hx hxl
  have HY := hide (And.intro hy0 (And.intro hy1 hyu))
  clear hy0 hy1 hyu
  go_wp2_with fail
  obtain ⟨hy0, hy1, hyu⟩ := unhide HY
  generalize bits .xor .u8 u (1 + (n : Int) % 255) = y at *
  obtain ⟨hf7, hg7⟩ := hf6.stored p (.int .u8 y)
  have hb7 : Below w.heap.size w (w6.setCell ⟨g, p, none⟩ (.int .u8 y)) := hb6.grown hg7 hb6.size (by intro j hj; obtain rfl := Option.some.inj hj; exact hgb)
  have hs7 : Sees (w6.setCell ⟨g, p, none⟩ (.int .u8 y)) .u8 (.slice (some ⟨g, 0, none⟩) B.length cp) (B.set p y) := by
    rw [show (ints .u8 B).set p (.int .u8 y) = ints .u8 (B.set p y) by simp [ints, List.map_set]] at hf7
    exact (sees_of_own hf7).2
  have hBy : Byt (B.set p y) := fun x hx => by
    rcases List.mem_or_eq_of_mem_set hx with hx | rfl
    · exact unhide HSB x hx
    · exact ⟨hy0, hy1⟩
  have HU := unseal_any _ _ _ hs7 hBy (by rw [List.length_set]; omega)
  rw [unhide HQ y hy0 hy1 hyu] at HU
  have HU := hide HU
  clear hf7 hg7 hs7 hBy HQ hf6 hcell hfz
  refine (unhide HU).mono ?_
  rintro e w8 ⟨x8, rfl, ho8, hb8'⟩
  have hb8 : Below w.heap.size w w8 := hb7.trans (hb8'.mono hb7.size)
  go_wp2
  go_ret
  exact ⟨rfl, hb8⟩

/-- Bytes that are too long are not sealed. -/
theorem formWhole_far (ao bo : Option Addr) (len cap bl bc : Nat) (n : Nat) (w : World) (h : 1048576 < len) (hm : len ≤ 9223372036854775807) :
    Calls Try.prog 8 #[.slice ao len cap, .slice bo bl bc, .int .u16 n] w fun e w' => e = .returned (.bool true) ∧ Below w.heap.size w w' := by
  have HS := hide (seal_long ao len cap w h hm)
  go_enter Try.func8, Try.ntmps8
  go_wp2_with (go_at_call 23; refine (unhide HS).mono ?_; rintro e w1 ⟨rfl, rfl⟩)
  go_wp2_with (go_at_call 11; refine (live_any _).mono ?_; rintro e w2 ⟨rfl, hb2⟩)
  go_wp2
  go_ret
  exact ⟨rfl, hb2⟩

end Go.Proofs.Ythdghnppledakaa
