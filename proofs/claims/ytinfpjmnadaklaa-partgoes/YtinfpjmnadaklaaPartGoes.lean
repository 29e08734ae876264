/- PartGoes: a key with a byte more has a number that is told by its own and the byte. -/
import Derived.Test.YtinfpjmnadaklaaQAwake
namespace Go.Proofs.Ytinfpjmnadaklaa
open Go.RowKit
set_option linter.unusedVariables false

theorem numK_app (s : ByteArray) (c : UInt8) : numK (s ++ ⟨[c].toArray⟩) = numStep (numK s) c := by
  unfold numK
  rw [ByteArray.data_append, Array.toList_append]
  exact numL_snoc _ _
theorem of_one (s : ByteArray) : ofK s 1 = 0 := by
  have := ofK_bd (s := s) (parts := 1) (by omega)
  omega
set_option maxHeartbeats 2000000 in
theorem partGoes_plain (w : World) (key : ByteArray) (hk : key.size ≤ maxLen) (c : UInt8) :
    Calls Try.prog 5 #[.string key, .int .u8 (c.toNat : Int)] w fun e w' => e = .returned (.bool true) ∧ Below w.heap.size w w' := by
  unfold maxLen at hk
  by_cases hs : 100 < key.size
  · have hd5 : decide ((100 : Int) < (key.size : Int)) = true := by simp; omega
    go_enter Try.func5, Try.ntmps5
    go_wp2_with fail
    refine (awake_calls _).mono ?_
    rintro e w9 ⟨rfl, hb9⟩
    go_wp2
    go_ret
    exact ⟨rfl, hb9⟩
  · have hd5 : decide ((100 : Int) < (key.size : Int)) = false := by simp; omega
    have hk2 : key.size ≤ 100 := by omega
    have hcv : (convert 38 9 (Value.slice (some ⟨w.heap.size, 0, none⟩) 1 1)).run Try.prog (w.alloc (Obj.cells #[.int .u8 (c.toNat : Int)] 5)) = .ok (.string ⟨[c].toArray⟩) (w.alloc (Obj.cells #[.int .u8 (c.toNat : Int)] 5)) := by
      refine run_convert_bytes_back _ 38 9 5 ⟨w.heap.size, 0, none⟩ 1 [c] Try.underlying38 Try.underlying5 Try.underlying9 ?_
      intro j hj
      have hj0 : j = 0 := by simpa using hj
      subst hj0
      simp [go_sem, Addr.add]
    have hsz : (key ++ ⟨[c].toArray⟩ : ByteArray).size = key.size + 1 := by rw [ByteArray.size_append]; rfl
    have hok : ¬ 9223372036854775807 < key.size + 1 := by omega
    have HB0 := hid (alloc_one w (Obj.cells #[.int .u8 (c.toNat : Int)] 5))
    have HN := hid (numK_app key c)
    clear hs hk
    go_enter Try.func5, Try.ntmps5
    go_wp2_with fail
    refine (number_any key (by omega) w).mono ?_
    rintro e w1 ⟨rfl, rfl⟩
    have hn := numK_lt key
    go_wp2_with fail
    refine (number_any _ (show (key ++ ⟨#[c]⟩ : ByteArray).size ≤ 1000 by rw [show (⟨#[c]⟩ : ByteArray) = ⟨[c].toArray⟩ from rfl, hsz]; omega) _).mono ?_
    rintro e w2 ⟨rfl, rfl⟩
    rw [show numK (key ++ ⟨#[c]⟩) = numStep (numK key) c from HN.out]
    have he : (((numStep (numK key) c : Nat) : Int) == (31 * (numK key : Int) + (c.toNat : Int)) % 4294967296) = true := by unfold numStep; simp
    have H7 := hid (show ofK key 7 = (numK key : Int) % 7 from ofK_some (by omega))
    obtain ⟨n, hnk⟩ : ∃ n, numK key = n := ⟨_, rfl⟩
    rw [hnk] at he H7 hn ⊢
    generalize numStep n c = m at he ⊢
    clear hnk HN hcv
    obtain ⟨W, hW⟩ : ∃ W, w1.alloc (Obj.cells #[.int .u8 (c.toNat : Int)] 5) = W := ⟨_, rfl⟩
    rw [hW] at HB0 ⊢
    clear hW
    go_wp2_with fail
    refine (of_any key (by omega) 1 (by decide) (by decide) _).mono ?_
    rintro e w3 ⟨rfl, rfl⟩
    rw [of_one]
    go_wp2_with fail
    refine (of_any key (by omega) 7 (by decide) (by decide) _).mono ?_
    rintro e w4 ⟨rfl, rfl⟩
    rw [H7.out]
    go_wp2_with fail
    refine (awake_calls _).mono ?_
    rintro e w9 ⟨rfl, hb9⟩
    go_wp2
    go_ret
    exact ⟨rfl, below_then HB0.out hb9 HB0.out.size⟩
theorem partGoes_walk (w : World) (key : ByteArray) (hk : key.size ≤ maxLen) (b : Int) (wf : (Lit.int .u8 b).wf = true) :
    Calls Try.prog 5 #[.string key, .int .u8 b] w fun e w' => e = .returned (.bool true) ∧ Below w.heap.size w w' := by
  have e1 : IntKind.u8.min = 0 := rfl
  have e2 : IntKind.u8.max = 255 := rfl
  simp [Lit.wf, e1, e2] at wf
  have h := partGoes_plain w key hk (UInt8.ofNat b.toNat)
  have e : ((UInt8.ofNat b.toNat).toNat : Int) = b := by rw [UInt8.toNat_ofNat']; omega
  rw [e] at h
  exact h
end Go.Proofs.Ytinfpjmnadaklaa
