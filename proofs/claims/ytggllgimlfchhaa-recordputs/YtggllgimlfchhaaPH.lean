/- bytes.HasSuffix of what does end so; make of noughts. -/
import Derived.Test.YtggllgimlfchhaaPG
namespace Go.Proofs.Ytggllgimlfchhaa
open Go.RowKit
set_option maxRecDepth 100000

set_option maxHeartbeats 400000 in
theorem hasSuffix_yes (sv fv : Value) (a fs : List Int) (w : World) (hs : Sees w .u8 sv (a ++ fs)) (hf : Sees w .u8 fv fs) (hb : Byt fs) (hm : (a ++ fs).length ≤ 140737488355328) :
    Calls Try.prog 26 #[sv, fv] w fun e w' => e = .returned (.bool true) ∧ w = w' := by
  obtain ⟨ao, cap, rfl, hcap, hnil, hc⟩ := id hs
  have hcut := (hs.upto.cut a.length fs.length (by simp)).sees
  have hd : ((a ++ fs).drop a.length).take fs.length = fs := by simp
  rw [hd] at hcut
  have HQ := hide (equal_any _ _ fs fs w hcut hf hb hb)
  rw [decide_eq_true rfl] at HQ
  obtain ⟨af, cf, rfl, _⟩ := hf
  obtain ⟨N, hN⟩ : ∃ n, (a ++ fs).length = n := ⟨_, rfl⟩
  obtain ⟨M, hM⟩ : ∃ n, fs.length = n := ⟨_, rfl⟩
  obtain ⟨A, hA⟩ : ∃ n, a.length = n := ⟨_, rfl⟩
  have hNM : N = A + M := by rw [← hN, List.length_append, hA, hM]
  rw [hM, hA] at HQ
  rw [hN] at hcap hm ⊢
  rw [hM]
  clear hc hs hcut hnil hN hM hA hd hb
  subst hNM
  have h1 : ((A + M : Nat) : Int) - (M : Int) = (A : Int) := by omega
  have h2 : A + M - A = M := by omega
  have h3 : (M : Int) ≤ ((A + M : Nat) : Int) := by omega
  by_cases hck : cap = A
  · subst hck
    obtain rfl : M = 0 := by omega
    rw [if_pos rfl, Nat.sub_self] at HQ
    go_enter Try.func26, Try.ntmps26
    go_wp2_with fail
    refine (unhide HQ).mono ?_
    rintro e w1 ⟨rfl, rfl⟩
    go_wp2_with fail
    go_ret
    exact ⟨rfl, rfl⟩
  · rw [if_neg hck] at HQ
    go_enter Try.func26, Try.ntmps26
    go_wp2_with fail
    refine (unhide HQ).mono ?_
    rintro e w1 ⟨rfl, rfl⟩
    go_wp2_with fail
    go_ret
    exact ⟨rfl, rfl⟩
end Go.Proofs.Ytggllgimlfchhaa
