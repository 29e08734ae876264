/- PartTells: a key's number and part, and which pairs are a part's, is what the reference tells; what is lent stays. -/
import Derived.Test.YtinfpjmnadaklaaQAwake
import Derived.Test.YtinfpjmnadaklaaSArg
namespace Go.Proofs.Ytinfpjmnadaklaa
open Go.RowKit
set_option linter.unusedVariables false

set_option maxRecDepth 100000 in
set_option maxHeartbeats 4000000 in
theorem partTells_plain (w : World) (key : ByteArray) (hk : key.size ≤ maxLen) (parts : Int) (h1 : -9223372036854775808 ≤ parts) (h2 : parts ≤ 9223372036854775807) (p : Int) (v : Value) (l : List KV) (hv : Prs w v l) :
    Calls Try.prog 3 #[.string key, .int .i64 parts, .int .i64 p, v] w fun e w' => e = .returned (.bool true) ∧ Below w.heap.size w w' := by
  have HV := hid hv
  unfold maxLen at hk
  clear hv
  by_cases hs : 100 < key.size
  · have hd5 : decide ((100 : Int) < (key.size : Int)) = true := by simp; omega
    go_enter Try.func3, Try.ntmps3
    go_wp2_with fail
    refine (awake_calls _).mono ?_
    rintro e w9 ⟨rfl, hb9⟩
    go_wp2
    go_ret
    exact ⟨rfl, hb9⟩
  · have hd5 : decide ((100 : Int) < (key.size : Int)) = false := by simp; omega
    go_enter Try.func3, Try.ntmps3
    go_wp2_with fail
    refine (greatPairs_any v l 80 w HV.out).mono ?_
    rintro e w0 ⟨⟨g, rfl, hg⟩, rfl⟩
    cases g with
    | true =>
      clear hg
      go_wp2_with fail
      refine (awake_calls _).mono ?_
      rintro e w9 ⟨rfl, hb9⟩
      go_wp2
      go_ret
      exact ⟨rfl, hb9⟩
    | false =>
      obtain ⟨hl, hsm⟩ := hg rfl
      have HS := hid hsm
      clear hg hsm
      rename World => w
      go_wp2_with fail
      refine (lendPairs_any v l w HV.out (by omega)).mono ?_
      rintro e w1 ⟨rfl, hoI, hb1⟩
      have HOI := hid hoI
      have HB1 := hid hb1
      have HI1 := hid ((Reads.own encP_len (by decide) hoI).cut)
      have HV1 := hid (HV.out.below hb1)
      have hIlt : w.heap.size < w1.heap.size := owns_lt hoI rfl
      clear hoI hb1
      generalize hin : Value.slice (some ⟨w.heap.size, 0, none⟩) l.length (l.length + 3) = vin at HI1 ⊢
      have HIn := hid hin
      clear hin
      go_wp2_with fail
      refine (only_any vin l parts p h1 h2 w1 HI1.out (by omega) HS.out).mono ?_
      rintro e w2 ⟨va, rfl, hoa, hb2⟩
      have HOa := hid hoa
      have HQ := hid (show ∀ q, va.ownBlock = some q → w1.heap.size ≤ q from fun q hq => owns_base hoa hq)
      have HB2 := hid hb2
      clear hoa hb2
      go_wp2_with fail
      refine (number_any key (by omega) w2).mono ?_
      rintro e w3 ⟨rfl, rfl⟩
      go_wp2_with fail
      refine (refNumber_any key (by omega) _).mono ?_
      rintro e w3 ⟨rfl, rfl⟩
      generalize numK key = n
      have he1 : (((n : Nat) : Int) == (n : Int)) = true := by simp
      go_wp2_with fail
      refine (of_any key (by omega) parts h1 h2 _).mono ?_
      rintro e w3 ⟨rfl, rfl⟩
      go_wp2_with fail
      refine (refOf_any key (by omega) parts h1 h2 _).mono ?_
      rintro e w2 ⟨rfl, rfl⟩
      generalize ofK key parts = r
      have he2 : (r == r) = true := by simp
      go_wp2_with fail
      refine (refOnly_any v l parts p h1 h2 w2 (HV1.out.below HB2.out) (by omega) HS.out).mono ?_
      rintro e w3 ⟨vr, rfl, hor, hb3⟩
      have HOr := hid hor
      have HOa3 := hid (owns_below HOa.out hb3)
      have HB3 := hid (below_then HB2.out hb3 HB2.out.size)
      clear hor hb3 HOa HB2
      go_wp2_with fail
      refine (samePairs_any _ _ (onlyL l parts p) w3 (Reads.own encP_len (by decide) HOa3.out) (Reads.own encP_len (by decide) HOr.out)).mono ?_
      rintro e w4 ⟨rfl, n4, rfl⟩
      have HB4 := hid (below_then HB3.out (below_drew w3 n4) HB3.out.size)
      have HOa4 := hid (owns_below HOa3.out (below_drew w3 n4))
      generalize w3.drewN n4 = w4 at HB4 HOa4 ⊢
      clear HOr HOa3 HB3
      rw [← HIn.out]
      have HEnd := hid (below_then HB1.out HB4.out HB1.out.size)
      go_wp2_with fail
      refine (keptPairs_any w.heap.size v l w4 (Reads.own encP_len (by decide) (owns_below HOI.out HB4.out)) (HV.out.below HEnd.out) (by omega)).mono ?_
      rintro e w5 ⟨rfl, n5, rfl⟩
      have HB5 := hid (below_then HB4.out (below_drew w4 n5) HB4.out.size)
      have HOa5 := hid (owns_below HOa4.out (below_drew w4 n5))
      generalize w4.drewN n5 = w5 at HB5 HOa5 ⊢
      have hsz5 := HB5.out.size
      have hal := onlyL_len l parts p
      clear HOa4 HB4 HEnd
      go_wp2_with fail
      refine (overPairs_grown _ _ va _ w5 HOa5.out hsz5 (by omega)).mono ?_
      rintro e w6 ⟨rfl, hg6⟩
      have HB6 := hid (HB5.out.grown hg6 HB5.out.size (fun q hq => HQ.out q hq))
      clear hg6 HOa5 HB5
      have HEnd := hid (below_then HB1.out HB6.out HB1.out.size)
      go_wp2_with fail
      refine (keptPairs_any w.heap.size v l w6 (Reads.own encP_len (by decide) (owns_below HOI.out HB6.out)) (HV.out.below HEnd.out) (by omega)).mono ?_
      rintro e w7 ⟨rfl, n7, rfl⟩
      have HEnd2 := hid (below_then HEnd.out (below_drew w6 n7) HEnd.out.size)
      generalize w6.drewN n7 = w7 at HEnd2 ⊢
      go_wp2_with fail
      refine (awake_calls _).mono ?_
      rintro e w8 ⟨rfl, hb8⟩
      have HEnd3 := hid (below_then HEnd2.out hb8 HEnd2.out.size)
      go_wp2
      go_ret
      exact ⟨rfl, HEnd3.out⟩
theorem i64_of {a : Int} (h : (Lit.int .i64 a).wf = true) : -9223372036854775808 ≤ a ∧ a ≤ 9223372036854775807 := by
  have e1 : IntKind.i64.min = -9223372036854775808 := rfl
  have e2 : IntKind.i64.max = 9223372036854775807 := rfl
  simp [Lit.wf, e1, e2] at h
  exact ⟨by omega, by omega⟩
theorem partTells_walk (w : World) (key : ByteArray) (hk : key.size ≤ maxLen) (parts : Int) (wp : (Lit.int .i64 parts).wf = true) (p : Int) (wq : (Lit.int .i64 p).wf = true) (v : Value) (l : List KV) (hv : rSlice 2 rPr w [v] l) :
    Calls Try.prog 3 #[.string key, .int .i64 parts, .int .i64 p, v] w fun e w' => e = .returned (.bool true) ∧ Below w.heap.size w w' :=
  partTells_plain w key hk parts (i64_of wp).1 (i64_of wp).2 p v l (Prs.arg hv)
end Go.Proofs.Ytinfpjmnadaklaa
