/- CutTells: sizes, how many chunks there are, and each chunk are what the reference tells; what is lent stays. -/
import Derived.Test.YthjoomcannfnjaaCAwake
import Derived.Test.YthjoomcannfnjaaSArg
namespace Go.Proofs.Ythjoomcannfnjaa
open Go.RowKit
set_option linter.unusedVariables false

set_option maxRecDepth 100000 in
set_option maxHeartbeats 4000000 in
theorem cutTells_plain (w : World) (v : Value) (l : List KV) (hv : Prs w v l) (size : Int) (h1 : -9223372036854775808 ≤ size) (h2 : size ≤ 9223372036854775807) (q chunk att n : Int) (h3 : -9223372036854775808 ≤ n) (h4 : n ≤ 9223372036854775807) :
    Calls Try.prog 3 #[v, .int .i64 size, .int .i64 q, .int .i64 chunk, .int .i64 att, .int .i64 n] w fun e w' => e = .returned (.bool true) ∧ Below w.heap.size w w' := by
  have HV := hid hv
  clear hv
  go_enter Try.func3, Try.ntmps3
  go_wp2_with fail
  refine (greatPairs_any v l 80 w HV.out).mono ?_
  rintro e w0 ⟨⟨g, rfl, hg⟩, rfl⟩
  cases g with
  | true =>
    clear hg
    go_wp2_with fail
    refine (awake_calls _).mono ?_
    rintro e w9 ⟨rfl, hb9⟩
    go_wp2
    go_ret
    exact ⟨rfl, hb9⟩
  | false =>
    obtain ⟨hl, -⟩ := hg rfl
    clear hg
    rename World => w
    go_wp2_with fail
    refine (low_calls chunk 1000 (by decide) (by decide) _).mono ?_
    rintro e w1 ⟨rfl, rfl⟩
    obtain ⟨c1, c2⟩ := low_bd chunk 1000 (by decide)
    generalize low chunk 1000 = c at c1 c2 ⊢
    rename World => w
    go_wp2_with fail
    refine (lendPairs_any v l w HV.out (by omega)).mono ?_
    rintro e w1 ⟨rfl, hoI, hb1⟩
    have HOI := hid hoI
    have HB1 := hid hb1
    have HI1 := hid ((Reads.own encP_len (by decide) hoI).cut)
    have HV1 := hid (HV.out.below hb1)
    clear hoI hb1
    generalize hin : Value.slice (some ⟨w.heap.size, 0, none⟩) l.length (l.length + 3) = vin at HI1 ⊢
    have HIn := hid hin
    clear hin
    go_wp2_with fail
    refine (chunk_any vin l size q h1 h2 w1 HI1.out (by omega)).mono ?_
    rintro e w2 ⟨va, rfl, hoa, hb2⟩
    have HOa := hid hoa
    have HQ := hid (show ∀ q, va.ownBlock = some q → w1.heap.size ≤ q from fun q hq => owns_base hoa hq)
    have HB2 := hid hb2
    clear hoa hb2
    go_wp2_with fail
    refine (refChunk_any v l size q h1 h2 w2 (HV1.out.below HB2.out) (by omega)).mono ?_
    rintro e w3 ⟨vr, rfl, hor, hb3⟩
    have HOr := hid hor
    have HOa3 := hid (owns_below HOa.out hb3)
    have HB3 := hid (below_then HB2.out hb3 HB2.out.size)
    clear hor hb3 HOa HB2
    go_wp2_with fail
    refine (samePairs_any _ _ (chunkL l size q) w3 (Reads.own encP_len (by decide) HOa3.out) (Reads.own encP_len (by decide) HOr.out)).mono ?_
    rintro e w4 ⟨rfl, n4, rfl⟩
    have HB4 := hid (below_then HB3.out (below_drew w3 n4) HB3.out.size)
    have HOa4 := hid (owns_below HOa3.out (below_drew w3 n4))
    generalize w3.drewN n4 = w4 at HB4 HOa4 ⊢
    clear HOr HOa3 HB3
    go_wp2_with fail
    refine (cut_Size_any c att (by omega) (by omega) _).mono ?_
    rintro e w5 ⟨rfl, rfl⟩
    go_wp2_with fail
    refine (staitheref10_Size_any c att (by omega) (by omega) _).mono ?_
    rintro e w5 ⟨rfl, rfl⟩
    generalize sizeI c att = z
    have he1 : (z == z) = true := by simp
    go_wp2_with fail
    refine (cut_Chunks_any n size h3 h4 h1 h2 _).mono ?_
    rintro e w5 ⟨rfl, rfl⟩
    go_wp2_with fail
    refine (staitheref10_Chunks_any n size h3 h4 h1 h2 _).mono ?_
    rintro e w4 ⟨rfl, rfl⟩
    generalize chunksI n size = y
    have he2 : (y == y) = true := by simp
    rw [← HIn.out]
    have HEnd := hid (below_then HB1.out HB4.out HB1.out.size)
    go_wp2_with fail
    refine (keptPairs_any w.heap.size v l w4 (Reads.own encP_len (by decide) (owns_below HOI.out HB4.out)) (HV.out.below HEnd.out) (by omega)).mono ?_
    rintro e w5 ⟨rfl, n5, rfl⟩
    have HB5 := hid (below_then HB4.out (below_drew w4 n5) HB4.out.size)
    have HOa5 := hid (owns_below HOa4.out (below_drew w4 n5))
    generalize w4.drewN n5 = w5 at HB5 HOa5 ⊢
    have hsz5 := HB5.out.size
    have hal := chunkL_len l size q
    clear HOa4 HB4 HEnd
    go_wp2_with fail
    refine (overPairs_grown _ _ va _ w5 HOa5.out hsz5 (by omega)).mono ?_
    rintro e w6 ⟨rfl, hg6⟩
    have HB6 := hid (HB5.out.grown hg6 HB5.out.size (fun q hq => HQ.out q hq))
    clear hg6 HOa5 HB5
    have HEnd := hid (below_then HB1.out HB6.out HB1.out.size)
    go_wp2_with fail
    refine (keptPairs_any w.heap.size v l w6 (Reads.own encP_len (by decide) (owns_below HOI.out HB6.out)) (HV.out.below HEnd.out) (by omega)).mono ?_
    rintro e w7 ⟨rfl, n7, rfl⟩
    have HEnd2 := hid (below_then HEnd.out (below_drew w6 n7) HEnd.out.size)
    generalize w6.drewN n7 = w7 at HEnd2 ⊢
    go_wp2_with fail
    refine (awake_calls _).mono ?_
    rintro e w8 ⟨rfl, hb8⟩
    have HEnd3 := hid (below_then HEnd2.out hb8 HEnd2.out.size)
    go_wp2
    go_ret
    exact ⟨rfl, HEnd3.out⟩
theorem i64_of {a : Int} (h : (Lit.int .i64 a).wf = true) : -9223372036854775808 ≤ a ∧ a ≤ 9223372036854775807 := by
  have e1 : IntKind.i64.min = -9223372036854775808 := rfl
  have e2 : IntKind.i64.max = 9223372036854775807 := rfl
  simp [Lit.wf, e1, e2] at h
  exact ⟨by omega, by omega⟩
theorem cutTells_walk (w : World) (v : Value) (l : List KV) (hv : rSlice 2 rPr w [v] l) (size : Int) (ws : (Lit.int .i64 size).wf = true) (q : Int) (wq : (Lit.int .i64 q).wf = true) (chunk : Int) (wc : (Lit.int .i64 chunk).wf = true) (att : Int) (wa : (Lit.int .i64 att).wf = true) (n : Int) (wn : (Lit.int .i64 n).wf = true) :
    Calls Try.prog 3 #[v, .int .i64 size, .int .i64 q, .int .i64 chunk, .int .i64 att, .int .i64 n] w fun e w' => e = .returned (.bool true) ∧ Below w.heap.size w w' :=
  cutTells_plain w v l (Prs.arg hv) size (i64_of ws).1 (i64_of ws).2 q chunk att n (i64_of wn).1 (i64_of wn).2
end Go.Proofs.Ythjoomcannfnjaa
