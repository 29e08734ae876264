/- Laid together: MpSmall MpAwake MpActs LJoin MpJoin MpCf MpPv. -/
import Derived.Test.YtfimoobgbodbmaaGreatDoorGMpC
import Derived.Test.YtfimoobgbodbmaaGreatDoorGMpD
import Derived.Test.YtfimoobgbodbmaaGreatDoorFEmpty
import Derived.Handy
import Derived.Test.YtfimoobgbodbmaaGreatDoorGJarg
import Derived.Test.YtfimoobgbodbmaaGreatDoorGArg
import Derived.Test.YtfimoobgbodbmaaGreatDoorLis
import Derived.Test.YtfimoobgbodbmaaGreatDoorAppAny
import Derived.Lib.AppendZerosOnto
import Derived.Test.YtfimoobgbodbmaaGreatDoorGTexts
/-! awake of chapter 19's statements: the small configuration. -/
namespace Go.Proofs.YtfimoobgbodbmaaGreatDoor
open Go.RowKit Go.Lib
set_option linter.unusedVariables false
set_option maxRecDepth 100000

def baF : List KV := [(bF, n1), (aF, n2)]
def abF : List KV := [(aF, n2), (bF, n1)]
def smallJ : JobV := ⟨[baF], 1, firstP, [], firstP, 1, 1, 9, []⟩
theorem bad_firstP : bad firstP < 0 := may_all (by simp [firstP]) (by
  intro x hx
  simp only [firstP, List.mem_cons, List.mem_nil_iff, or_false] at hx
  rcases hx with rfl | rfl | rfl | rfl <;> simp [good])
theorem bad_nil : bad ([] : List Inst) < 0 := by decide
theorem smallJ_may : mayJ smallJ = true := by
  unfold mayJ smallJ
  simp only [bad_firstP, bad_nil, decide_true]
  decide
theorem smallJ_fit : JobFit smallJ := ⟨first_nums, (fun x hx => by simp [smallJ] at hx), first_nums, i64_small (by simp [smallJ]) (by simp [smallJ]), i64_small (by simp [smallJ]) (by simp [smallJ]), i64_small (by simp [smallJ]) (by simp [smallJ]), i64_small (by simp [smallJ]) (by simp [smallJ])⟩
theorem ba_srt : srt baF = abF := by decide
theorem ab_srt : srt abF = abF := by decide
theorem small_map : mapL firstP baF 9 = (baF, 0) := by
  have h1 := first_one bF n1 (by decide) (by decide)
  have h2 := first_one aF n2 (by decide) (by decide)
  have hr : mapR firstP 9 baF = 0 := by
    unfold baF
    rw [mapR_cons, h1, if_pos rfl, mapR_cons, h2, if_pos rfl]
    rfl
  have ht : mapT firstP 9 baF = baF := by
    unfold mapT baF
    rw [List.flatMap_cons, List.flatMap_cons, h1, h2]
    rfl
  unfold mapL
  rw [if_pos hr, ht, if_pos (by decide)]
theorem small_split : splitL firstP [] 9 baF = (abF, 0) := by
  unfold splitL
  rw [small_map, if_pos rfl]
  unfold combineL
  rw [if_pos (show ([] : List Inst).length = 0 from rfl), ba_srt]
theorem only_one (l : List KV) : onlyL l 1 0 = l := by
  unfold onlyL
  rw [List.filter_eq_self]
  intro x _
  have h := ofK_bd (s := x.1) (parts := 1) (by omega)
  unfold isP
  simp
  omega
theorem is_nilO (w : World) : Is w (.slice none 0 0) [] := ⟨none, 0, rfl, Nat.le_refl _, by unfold maxLen; omega, fun _ => ⟨rfl, rfl⟩, fun h => absurd rfl h⟩
def smallC : CfgV := ⟨smallJ, 1, 2, 1⟩
theorem smallC_may : mayC smallC = true := by
  unfold mayC
  rw [show smallC.job = smallJ from rfl, smallJ_may]
  decide
set_option maxHeartbeats 4000000 in
theorem small19_any (w : World) : Calls Tryz.prog 36 #[] w fun e w' => ∃ s : SlJ, e = .returned (cfgV s smallC) ∧ JobIs w' s.so s.mo s.co s.ro s.ko s.sc s.mc s.cc s.rc s.kc smallC.job ∧ Below w.heap.size w w' := by
  have h0 : ∀ o : Obj, JobIs ((((w.alloc o).alloc (.cells (icl firstP).toArray 118)).alloc (.cells (fl encP baF).toArray 105)).alloc (.cells #[.slice (some ⟨w.heap.size + 2, 0, none⟩) 2 2] 51)) (some ⟨w.heap.size + 3, 0, none⟩) (some ⟨w.heap.size + 1, 0, none⟩) none (some ⟨w.heap.size + 1, 0, none⟩) none 1 4 0 4 0 smallJ ∧
      Below w.heap.size w ((((w.alloc o).alloc (.cells (icl firstP).toArray 118)).alloc (.cells (fl encP baF).toArray 105)).alloc (.cells #[.slice (some ⟨w.heap.size + 2, 0, none⟩) 2 2] 51)) := by
    intro o
    have z1 : (w.alloc o).heap.size = w.heap.size + 1 := by simp
    have hc := Co.made firstP (w.alloc o) (by simp [firstP])
    rw [z1] at hc
    have z2 : ((w.alloc o).alloc (.cells (icl firstP).toArray 118)).heap.size = w.heap.size + 2 := by simp
    have hp := pairs_made baF ((w.alloc o).alloc (.cells (icl firstP).toArray 118)) (by simp [baF])
    rw [z2] at hp
    have hc2 := (hc.below (alloc_one _ (.cells (fl encP baF).toArray 105))).below (alloc_one _ (.cells #[.slice (some ⟨w.heap.size + 2, 0, none⟩) 2 2] 51))
    have b1 := alloc_one w o
    have b2 := below_then b1 (alloc_one _ (.cells (icl firstP).toArray 118)) b1.size
    have b3 := below_then b2 (alloc_one _ (.cells (fl encP baF).toArray 105)) b2.size
    have b4 := below_then b3 (alloc_one _ (.cells #[.slice (some ⟨w.heap.size + 2, 0, none⟩) 2 2] 51)) b3.size
    have z3 : (((w.alloc o).alloc (.cells (icl firstP).toArray 118)).alloc (.cells (fl encP baF).toArray 105)).heap.size = w.heap.size + 3 := by simp
    have hl := lis_made [.slice (some ⟨w.heap.size + 2, 0, none⟩) 2 2] [baF] (((w.alloc o).alloc (.cells (icl firstP).toArray 118)).alloc (.cells (fl encP baF).toArray 105)) (by simp) rfl fun j l hj => by
      match j, hj with
      | 0, hj => simp at hj; subst hj; exact ⟨_, rfl, hp⟩
      | j + 1, hj => simp at hj
    rw [z3] at hl
    exact ⟨⟨hl, hc2, co_nil _, hc2, is_nilO _⟩, b4⟩
  have H0 := hid h0
  clear h0
  go_enter Tryz.func36, Tryz.ntmps36
  go_wp2
  go_returns
  exact ⟨⟨_, _, none, _, none, 1, 4, 0, 4, 0⟩, rfl, (H0.out _).1, (H0.out _).2⟩


theorem small_base {W : World} (T : Tabs W) {a : Int} (h1 : 1 ≤ a) (h2 : a ≤ 2) : Base W smallC 0 a := ⟨smallC_may, smallJ_fit, T, by decide, h1, h2⟩
theorem small_R (a : Int) : (attV smallC 0 a).R = (abF, 0) := small_split
theorem small_num (a : Int) : (attV smallC 0 a).num = 1 := by
  unfold AtV.num
  rw [small_R]
  rfl
theorem small_list (a : Int) : (attV smallC 0 a).list 0 = abF := by
  unfold AtV.list
  rw [small_R]
  exact only_one abF
theorem small_cnt2 : (attV smallC 0 2).cnt 0 = 2 := by
  unfold AtV.cnt
  rw [small_list]
  decide
theorem small_cnt1 : (attV smallC 0 1).cnt 0 = 1 := by
  unfold AtV.cnt
  rw [small_list]
  decide
theorem small_counts2 : (attV smallC 0 2).counts = [2] := by
  unfold AtV.counts
  rw [small_num]
  show [(attV smallC 0 2).cnt 0] = _
  rw [small_cnt2]
theorem small_counts1 : (attV smallC 0 1).counts = [1] := by
  unfold AtV.counts
  rw [small_num]
  show [(attV smallC 0 1).cnt 0] = _
  rw [small_cnt1]
theorem small_ws2 : (attV smallC 0 2).ws0 = [newW 2 1] := by
  unfold AtV.ws0
  rw [small_num]
  show [newW ((attV smallC 0 2).cnt 0) 1] = _
  rw [small_cnt2]
theorem small_ws1 : (attV smallC 0 1).ws0 = [newW 1 1] := by
  unfold AtV.ws0
  rw [small_num]
  show [newW ((attV smallC 0 1).cnt 0) 1] = _
  rw [small_cnt1]
end Go.Proofs.YtfimoobgbodbmaaGreatDoor
/-! awake of chapter 19's statements: it is true. -/
namespace Go.Proofs.YtfimoobgbodbmaaGreatDoor
open Go.RowKit Go.Lib
set_option linter.unusedVariables false
set_option maxRecDepth 100000

theorem is_oneM (x : Int) (w : World) : Is (w.alloc (.cells #[.int .i64 x] 3)) (.slice (some ⟨w.heap.size, 0, none⟩) 1 1) [x] :=
  Is.owned (base := 0) (n := 1) ⟨rfl, .inr ⟨w.heap.size, 1, _, rfl, Nat.zero_le _, new_block _ _, Nat.le_refl _, by unfold maxLen; omega, rfl, rfl⟩⟩
set_option maxHeartbeats 8000000 in
set_option maxRecDepth 100000 in
theorem awake19 (w : World) (T : Tabs w) : Calls Tryz.prog 8 #[] w fun e w' => e = .returned (.bool true) ∧ Below w.heap.size w w' := by
  have B2 := hid (small_base T (a := 2) (by omega) (by omega))
  have B1 := hid (small_base T (a := 1) (by omega) (by omega))
  have hnot : ∀ (x : Bool) (w : World), (Op.unary .not (.bool x)).run Tryz.prog w = .ok (.bool (!x)) w := fun _ _ => rfl
  clear T
  go_enter Tryz.func8, Tryz.ntmps8
  go_wp2_with fail
  refine (small19_any w).mono ?_
  rintro e w1 ⟨s1, rfl, hj1, hb1⟩
  have HJ1 := hid hj1
  have HB1 := hid hb1
  clear hj1 hb1
  go_wp2_with fail
  refine (mpNew_any B2.out HB1.out HJ1.out).mono ?_
  rintro e w2 ⟨bm, sm, I1, rfl, hm2, hi2, hb2⟩
  have HM2 := hid hm2
  have HZ2 := hid (show ∀ g, I1 g → g < w2.heap.size from fun g hg => (hm2.bd g hg).2)
  clear hm2 hi2 hb2 HB1 HJ1
  go_wp2_with fail
  refine (small19_any w2).mono ?_
  rintro e w3 ⟨s3, rfl, hj3, hb3⟩
  have HJ3 := hid hj3
  have HM3 := hid (HM2.out.below hb3)
  have HZ3 := hid (show ∀ g, I1 g → g < w3.heap.size from fun g hg => Nat.lt_of_lt_of_le (HZ2.out g hg) hb3.size)
  clear hj3 hb3 HM2 HZ2
  go_wp2_with fail
  refine (mpNew_any B1.out HM3.out.bel HJ3.out).mono ?_
  rintro e w4 ⟨bn, sn, I2, rfl, hn4, hi4, hb4⟩
  have HN4 := hid hn4
  have HM4 := hid (HM3.out.below hb4)
  have HD4 := hid (show ∀ g, I1 g → ¬ I2 g from fun g hg h2 => by have := HZ3.out g hg; have := hi4 g h2; omega)
  clear hn4 hi4 hb4 HM3 HZ3 HJ3
  go_wp2_with fail
  refine (counts_first w4 B2.out HM4.out).mono ?_
  rintro e w6 ⟨w5, Z, v, I3, a5, c5, ⟨rfl, hs5⟩, hm5, hb6, rfl, ho6⟩
  rw [small_counts2, small_num] at ho6
  have HM6 := hid (hm5.below hb6)
  have HN6 := hid ((HN4.out.sav hs5 (fun g hg e => HD4.out bm HM4.out.inb (by rw [← show g = bm from e]; exact hg)) hm5.bel).below hb6)
  have HD6 := hid (show ∀ g, Grow I1 w4 w5 g → ¬ I2 g from fun g hg h2 => by
    rcases hg with hg | hg
    · exact HD4.out g hg h2
    · have := (HN4.out.bd g h2).2
      omega)
  have HO6 := hid (show Is w6 (.slice a5 1 c5) [2] from Is.owned ho6)
  generalize Grow I1 w4 w5 = I3 at *
  rw [small_num, small_ws2] at *
  clear hs5 hm5 hb6 ho6 HM4 HN4 HD4
  have hA2 := HO6.out.below (alloc_one w6 (.cells #[.int .i64 2] 3))
  have hM2 := is_oneM 2 w6
  have HM7 := hid (HM6.out.below (alloc_one w6 (.cells #[.int .i64 2] 3)))
  have HN7 := hid (HN6.out.below (alloc_one w6 (.cells #[.int .i64 2] 3)))
  go_wp2_with fail
  refine (sameInts_any _ _ [2] [2] _ hA2 hM2).mono ?_
  rintro e w7 ⟨rfl, n7, hw7⟩
  rw [show decide (([2] : List Int) = [2]) = true from rfl]
  have hb7 : Below (w6.alloc (.cells #[.int .i64 2] 3)).heap.size (w6.alloc (.cells #[.int .i64 2] 3)) w7 := by rw [hw7]; exact below_drew _ n7
  have HM8 := hid (HM7.out.below hb7)
  have HN8 := hid (HN7.out.below hb7)
  clear hA2 hM2 HM6 HN6 HM7 HN7 HO6 hw7 hb7
  go_wp2_with fail
  refine (counts_first w7 B1.out HN8.out).mono ?_
  rintro e w9 ⟨w8, Z2, v2, I4, a8, c8, ⟨rfl, hs8⟩, hn8, hb9, rfl, ho9⟩
  rw [small_counts1, small_num] at ho9
  have HN9 := hid (hn8.below hb9)
  have HM9 := hid ((HM8.out.sav hs8 (fun g hg e => HD6.out g hg (by rw [show g = bn from e]; exact HN8.out.inb)) hn8.bel).below hb9)
  have HD9 := hid (show ∀ g, I3 g → ¬ Grow I2 w7 w8 g from fun g hg h2 => by
    rcases h2 with h2 | h2
    · exact HD6.out g hg h2
    · have := (HM8.out.bd g hg).2
      omega)
  have HO9 := hid (show Is w9 (.slice a8 1 c8) [1] from Is.owned ho9)
  generalize Grow I2 w7 w8 = I4 at *
  rw [small_num, small_ws1] at *
  clear hs8 hn8 hb9 ho9 HM8 HN8 HD6
  have hA3 := HO9.out.below (alloc_one w9 (.cells #[.int .i64 1] 3))
  have hM3 := is_oneM 1 w9
  have HM10 := hid (HM9.out.below (alloc_one w9 (.cells #[.int .i64 1] 3)))
  have HN10 := hid (HN9.out.below (alloc_one w9 (.cells #[.int .i64 1] 3)))
  go_wp2_with fail
  refine (sameInts_any _ _ [1] [1] _ hA3 hM3).mono ?_
  rintro e w10 ⟨rfl, n10, hw10⟩
  rw [show decide (([1] : List Int) = [1]) = true from rfl]
  have hb10 : Below (w9.alloc (.cells #[.int .i64 1] 3)).heap.size (w9.alloc (.cells #[.int .i64 1] 3)) w10 := by rw [hw10]; exact below_drew _ n10
  have HM11 := hid (HM10.out.below hb10)
  have HN11 := hid (HN10.out.below hb10)
  clear hA3 hM3 HM9 HN9 HM10 HN10 HO9 hw10 hb10
  go_wp2_with fail
  refine (mpPush_any w10 B2.out.at HM11.out).mono ?_
  rintro e w12 ⟨a12, c12, ms, rfl, hms, -, hb12⟩
  have hml : ms.length = 1 := by
    have h1 : (asks ms).length = ms.length := by simp [asks]
    rw [hms] at h1
    rw [← h1]
    decide
  rw [hml]
  have HM12 := hid (HM11.out.below hb12)
  have HN12 := hid (HN11.out.below hb12)
  clear hms hml hb12 HM11 HN11
  go_wp2_with fail
  refine (mpAck_any w12 B2.out.at HM12.out 0 1 2).mono ?_
  rintro e w13 ⟨x, rfl, hm13, hx, -, hs13⟩
  have hxt : x = true := (hx 0 (newW 2 1) rfl rfl).trans (by decide)
  rw [hxt]
  have hw13 : ackWs [newW 2 1] 0 1 2 = [⟨2, 1, 1, 2⟩] := by
    unfold ackWs
    rw [if_pos (by decide)]
    show [ackW (newW 2 1) 1 2] = _
    unfold ackW
    rw [if_pos (by decide)]
    rfl
  rw [hw13] at hm13
  have HM13 := hid hm13
  have HN13 := hid (HN12.out.sav hs13 (fun g hg e => by
    obtain ⟨z, hz, rfl⟩ := e
    exact HD9.out _ (HM12.out.ins _ (.inr ⟨z, hz, .inr rfl⟩)) hg) hm13.bel)
  clear hm13 hx hs13 hw13 hxt HM12 HN12 HD9
  go_wp2_with fail
  refine (mpDone_any w13 B2.out.at HM13.out).mono ?_
  rintro e w14 ⟨rfl, hb14⟩
  rw [show doneA [⟨2, 1, 1, 2⟩] = true by decide]
  have HN14 := hid (HN13.out.below hb14)
  clear hb14 HN13 HM13
  go_wp2_with fail
  refine (mpDone_any w14 B1.out.at HN14.out).mono ?_
  rintro e w15 ⟨rfl, hb15⟩
  rw [show doneA [newW 1 1] = false by decide]
  have HB15 := hid (HN14.out.below hb15).bel
  clear hb15 HN14
  go_wp2
  go_ret
  exact ⟨rfl, HB15.out⟩
end Go.Proofs.YtfimoobgbodbmaaGreatDoor
/-! How an ack of layer 19's statements reads, and how a configuration comes in. -/
namespace Go.Proofs.YtfimoobgbodbmaaGreatDoor
open Go.RowKit Go.Lib
set_option linter.unusedVariables false
set_option maxRecDepth 100000
abbrev ActV := Int × Int × Int
def rAct : Rd ActV := rPair 1 (rInt .i64) (rPair 1 (rInt .i64) (rInt .i64))
theorem opens_act : Opens Tryz.prog 55 3 rAct :=
  opens_struct Tryz.underlying55 (by kernel_rfl) (opensF_cons rfl (by kernel_rfl) (opens_int Tryz.underlying3) (opensF_cons rfl (by kernel_rfl) (opens_int Tryz.underlying3) (opensF_last rfl (by kernel_rfl) rfl (opens_int Tryz.underlying3))))
theorem opens_acts : Opens Tryz.prog 29 1 (rSlice 3 rAct) := @opens_slice _ ⟨(0, 0, 0)⟩ _ _ _ _ _ Tryz.underlying29 (by kernel_rfl) (by decide) opens_act
theorem act_cells {w : World} {ds : List Value} {a : ActV} (hl : ds.length = 3) (h : rAct w ds a) : ds = [.int .i64 a.1, .int .i64 a.2.1, .int .i64 a.2.2] := by
  match ds, hl with
  | [x, y, z], _ =>
    obtain ⟨⟨h1, _⟩, ⟨h2, _⟩, h3, _⟩ := h
    simp at h1 h2 h3
    rw [h1, h2, h3]
/-- Acts that lie in block b, from off on. -/
def Acts (w : World) (b off : Nat) (l : List ActV) : Prop := ∀ (j : Nat) (a : ActV), l[j]? = some a → ∃ ds : List Value, ds.length = 3 ∧ rAct w ds a ∧ ∀ (k : Nat) (u : Value), ds[k]? = some u → w.cell? ⟨b, off + j * 3 + k, none⟩ = some u
theorem Acts.at {w : World} {l : List ActV} {b off : Nat} (hc : Acts w b off l) {k : Nat} (hk : k < l.length) :
    w.cell? ⟨b, off + k * 3, none⟩ = some (.int .i64 l[k].1) ∧ w.cell? ⟨b, off + k * 3 + 1, none⟩ = some (.int .i64 l[k].2.1) ∧ w.cell? ⟨b, off + k * 3 + 2, none⟩ = some (.int .i64 l[k].2.2) := by
  obtain ⟨ds, hd, hr, hu⟩ := hc k l[k] (List.getElem?_eq_getElem hk)
  have he := act_cells hd hr
  subst he
  exact ⟨hu 0 _ rfl, hu 1 _ rfl, hu 2 _ rfl⟩
/-- A configuration that comes in: its job is of 64 bits too. -/
theorem cfg_arg_fit {w : World} {cs : Array Value} {a} (hs : cs.size = 12) (h : rCfg w cs.toList a) :
    ∃ (c : CfgV) (s : SlJ), .agg cs = cfgV s c ∧ JobIs w s.so s.mo s.co s.ro s.ko s.sc s.mc s.cc s.rc s.kc c.job ∧ JobFit c.job ∧ I64 c.tries := by
  obtain ⟨l, rfl⟩ : ∃ l : List Value, cs = l.toArray := ⟨cs.toList, by simp⟩
  simp only [List.size_toArray] at hs
  match l, hs with
  | [x0, x1, x2, x3, x4, x5, x6, x7, x8, x9, x10, x11], _ =>
    obtain ⟨⟨a0, a1, a2, a3, a4, a5, a6, a7, a8⟩, a9, a10, a11⟩ := a
    obtain ⟨⟨h0, h1, h2, h3, h4, h5, h6, h7, h8⟩, h9, h10, h11⟩ := h
    have k0 : Lis w x0 a0 := Lis.arg h0
    have k2 : Co w x2 a2 := Co.arg h2
    have k3 : Co w x3 a3 := Co.arg h3
    have k4 : Co w x4 a4 := Co.arg h4
    have k8 : Is w x8 a8 := (Is.arg h8).1
    have n2 : ∀ x ∈ a2, I64 x.2.1 := code_nums (v := x2) h2
    have n3 : ∀ x ∈ a3, I64 x.2.1 := code_nums (v := x3) h3
    have n4 : ∀ x ∈ a4, I64 x.2.1 := code_nums (v := x4) h4
    have n1 : I64 a1 := wf_i64 h1.2
    have n5 : I64 a5 := wf_i64 h5.2
    have n6 : I64 a6 := wf_i64 h6.2
    have n7 : I64 a7 := wf_i64 h7.2
    have n10 : I64 a10 := wf_i64 h10.2
    have e1 : x1 = .int .i64 a1 := by simpa [rInt] using h1.1
    have e5 : x5 = .int .i64 a5 := by simpa [rInt] using h5.1
    have e6 : x6 = .int .i64 a6 := by simpa [rInt] using h6.1
    have e7 : x7 = .int .i64 a7 := by simpa [rInt] using h7.1
    have e9 : x9 = .int .i64 a9 := by simpa [rInt] using h9.1
    have e10 : x10 = .int .i64 a10 := by simpa [rInt] using h10.1
    have e11 : x11 = .int .i64 a11 := by simpa [rInt] using h11.1
    obtain ⟨so, sc, e0, -⟩ := k0.slice
    obtain ⟨mo, mc, e2⟩ := k2.form
    obtain ⟨co, cc, e3⟩ := k3.form
    obtain ⟨ro, rc, e4⟩ := k4.form
    obtain ⟨ko, kc, e8⟩ := k8.form
    subst e0 e1 e2 e3 e4 e5 e6 e7 e8 e9 e10 e11
    exact ⟨⟨⟨a0, a1, a2, a3, a4, a5, a6, a7, a8⟩, a9, a10, a11⟩, ⟨so, mo, co, ro, ko, sc, mc, cc, rc, kc⟩, rfl, ⟨k0, k2, k3, k4, k8⟩, ⟨n2, n3, n4, n1, n5, n6, n7⟩, n10⟩
end Go.Proofs.YtfimoobgbodbmaaGreatDoor
/-! Join: lists one behind the other (slices.Grow, slices.Concat, by the library's own text). -/
namespace Go.Proofs.YtfimoobgbodbmaaGreatDoor
open Go.RowKit
set_option linter.unusedVariables false
set_option maxRecDepth 100000

set_option maxHeartbeats 2000000 in
theorem grow_nil (n : Nat) (hn : n ≤ 1000) (w : World) :
    Calls Tryz.prog 105 #[.slice none 0 0, .int .i64 n] w fun e w' => ∃ u, e = .returned u ∧ w'.ownsRow w.heap.size 105 2 u 0 [] ∧ Below w.heap.size w w' := by
  obtain ⟨i0, hi, hz0, hz1, hz2⟩ := info_parts Tryz.infoP
  by_cases h0 : n = 0
  · subst h0
    go_enter Tryz.func105, Tryz.ntmps105
    go_wp2
    go_ret
    exact ⟨_, rfl, World.ownsRow_nil _ _ _ _, Below.refl _ _⟩
  · have d1 : decide ((0 : Int) < (n : Int)) = true := by simp; omega
    have d2 : decide ((n : Int) < (0 : Int)) = false := by simp
    have hr := fun ty => Lib.run_append_nil_zeros (P := Tryz.prog) w 51 3 ty 105 i0 _ .i64 .i64 Tryz.underlying51 Tryz.underlying3 hi hz0 n (by omega) (by omega) (by omega) (by rw [hz2]; omega)
    have hge := grownCap_ge w n 0 105
    have hle := grownCap_le_maxLen w n 0 105 (by unfold maxLen; omega)
    obtain ⟨G, hG⟩ : ∃ G, grownCap w n 0 105 = G := ⟨_, rfl⟩
    rw [hG] at hr hge hle
    clear hG
    have HO := hid (show (w.drew.alloc (.cells (Builtin.zeroCells (Value.cells (.agg #[.string ⟨#[]⟩, .string ⟨#[]⟩])) n ++ Builtin.zeroCells (Value.cells (.agg #[.string ⟨#[]⟩, .string ⟨#[]⟩])) (G - n)) 105)).ownsRow w.heap.size 105 2 (.slice (some ⟨w.heap.size, 0, none⟩) 0 G) 0 [] from
      ⟨rfl, .inr ⟨w.heap.size, G, _, rfl, Nat.le_refl _, new_block _ _, by omega, hle, by rw [Array.size_append, size_zeroCells, size_zeroCells, ← Nat.add_mul, show n + (G - n) = G by omega]; rfl, by simp⟩⟩)
    have HB := hid (show Below w.heap.size w (w.drew.alloc (.cells (Builtin.zeroCells (Value.cells (.agg #[.string ⟨#[]⟩, .string ⟨#[]⟩])) n ++ Builtin.zeroCells (Value.cells (.agg #[.string ⟨#[]⟩, .string ⟨#[]⟩])) (G - n)) 105)) from below_then (below_drew1 w) (alloc_one _ _) (Nat.le_refl _))
    unfold maxLen at hle
    go_enter Tryz.func105, Tryz.ntmps105
    go_wp2_with (at_builtin; refine Lib.wpList_append_run _ rfl _ _ _ _ rfl _ _ rfl rfl _ _ (hr _) ?_)
    go_ret
    exact ⟨_, rfl, HO.out, HB.out⟩

set_option maxHeartbeats 2000000 in
theorem concat_any (v : Value) (ls : List (List KV)) (w : World) (hv : Lis w v ls) (hn : ls.flatten.length ≤ 1000) :
    Calls Tryz.prog 84 #[v] w (PairsNew w ls.flatten) := by
  have HV := hid hv
  obtain ⟨ao, ca, rfl, a1, a2, -⟩ := hv.slice
  unfold maxLen at a2
  clear hv
  obtain ⟨i0, hi, hz0, hz1, hz2⟩ := info_parts Tryz.infoP
  go_enter Tryz.func84, Tryz.ntmps84
  go_wp2
  go_loop [3, 11] (fun z i => ∃ k m : Nat, k ≤ ls.length ∧ i = .int .i64 k ∧ z = .int .i64 m ∧ m = (ls.take k).flatten.length) (fun _ i => ls.length - (intOf i).toNat)
  case atStart => exact ⟨0, 0, by omega, rfl, rfl, rfl⟩
  case round =>
    obtain ⟨k, m, hk, rfl, rfl, hm⟩ := hrel
    have HM := hid hm
    have hml : m ≤ 1000 := by have := flat_take_le ls k; omega
    clear hm
    by_cases hlt : k < ls.length
    · obtain ⟨b, off, l, xo, xc, hl, rfl, hb, c1, hp⟩ := HV.out.cell hlt
      have HF := hid (show m + l.length = (ls.take (k + 1)).flatten.length by rw [flat_take hl, List.length_append, ← HM.out])
      have hml2 : m + l.length ≤ 1000 := by have := flat_take_le ls (k + 1); have := HF.out; omega
      clear hl hp HM
      have d4 : decide ((k : Int) < (ls.length : Int)) = true := by simp; omega
      have d5 : decide ((m : Int) + (l.length : Int) < 0) = false := by simp; omega
      go_wp2
      go_round
      case rel => exact ⟨k + 1, m + l.length, by omega, by go_num, by go_num, HF.out⟩
      case measure => simp [intOf]; omega
    · obtain rfl : k = ls.length := by omega
      have d4 : decide ((ls.length : Int) < (ls.length : Int)) = false := by simp
      go_wp2_with fail
      refine (grow_nil m (by omega) w).mono ?_
      rintro e w1 ⟨u, rfl, ho1, hb1⟩
      have HO1 := hid ho1
      have HB1 := hid hb1
      clear ho1 hb1 HM
      go_wp2
      go_loopw [6, 27] (fun u i wr => ∃ k : Nat, k ≤ ls.length ∧ i = .int .i64 k ∧ wr.ownsRow w.heap.size 105 2 u (ls.take k).flatten.length (fl encP (ls.take k).flatten) ∧ Below w.heap.size w wr) (fun _ i _ => ls.length - (intOf i).toNat)
      case atStart => exact ⟨0, by omega, rfl, by simpa [fl] using HO1.out, HB1.out⟩
      case round =>
        obtain ⟨k, hk, rfl, ho, hbel⟩ := hrel
        have HO := hid ho
        have hsz := hbel.size
        clear ho
        have hml3 := flat_take_le ls k
        by_cases hlt : k < ls.length
        · obtain ⟨b, off, l, xo, xc, hl, rfl, hb, c1, hp⟩ := (HV.out.below hbel).cell hlt
          have HF := hid (flat_take hl)
          have hml2 : (ls.take k).flatten.length + l.length ≤ 1000 := by have := flat_take_le ls (k + 1); rw [flat_take hl, List.length_append] at this; omega
          have HP := hid hp
          obtain ⟨-, -, -, hx1, -, hx3, -⟩ := id hp
          clear hl hp
          have d4 : decide ((k : Int) < (ls.length : Int)) = true := by simp; omega
          generalize (ls.take k).flatten = ks at HO HF hml2 hml3
          go_wp2_with (at_builtin; refine wpList_append_own_any _ rfl _ _ 51 rfl w.heap.size 105 i0 (.agg #[.string ⟨#[]⟩, .string ⟨#[]⟩]) 2 32 Tryz.underlying51 hi hz0 hz1 hz2 rfl (by decide) _ ks.length _ rfl HO.out xo l.length xc (fl encP l) rfl (fl_length encP_len l) (fun e => by obtain ⟨ao2, c2, e2, _, _, h3, _⟩ := HP.out; cases e2; obtain ⟨h4, h5⟩ := h3 e; exact ⟨by rw [h4]; rfl, h5⟩) (HP.out.news encP_len (by decide) (Below.refl _ _)) (fl_one encP_one l) (by unfold maxLen; omega) (by omega) (by omega) ?_; intro v3 w3 ho3 hg3)
          have HB3 := hid (hbel.grown hg3 (by omega) (by intro q hq; exact owns_base HO.out hq))
          have HO3 := hid (show w3.ownsRow w.heap.size 105 2 v3 (ls.take (k + 1)).flatten.length (fl encP (ls.take (k + 1)).flatten) by rw [HF.out, fl_append, List.length_append]; exact ho3)
          clear ho3 hg3 HF HO hbel c1 HP
          go_wp2
          go_roundw
          case rel => exact ⟨k + 1, by omega, by go_num, HO3.out, HB3.out⟩
          case measure => simp [intOf]; omega
        · obtain rfl : k = ls.length := by omega
          have d4 : decide ((ls.length : Int) < (ls.length : Int)) = false := by simp
          rw [List.take_length] at HO
          go_wp2
          go_ret
          exact ⟨_, rfl, HO.out, hbel⟩
theorem join_any (v : Value) (ls : List (List KV)) (w : World) (hv : Lis w v ls) (hn : ls.flatten.length ≤ 1000) :
    Calls Tryz.prog 61 #[v] w (PairsNew w ls.flatten) := by
  have HV := hid hv
  clear hv
  go_enter Tryz.func61, Tryz.ntmps61
  go_wp2_with fail
  refine (concat_any v ls w HV.out hn).mono ?_
  rintro e w1 ⟨u, rfl, ho, hb⟩
  have HO := hid ho
  have HB := hid hb
  clear ho hb
  go_wp2
  go_ret
  exact ⟨_, rfl, HO.out, HB.out⟩
end Go.Proofs.YtfimoobgbodbmaaGreatDoor
/-! joined: all chunks of a part, one behind the other. -/
namespace Go.Proofs.YtfimoobgbodbmaaGreatDoor
open Go.RowKit Go.Lib
set_option linter.unusedVariables false
set_option maxRecDepth 100000

/-- The first k chunks, each with its own memory. -/
def Cs (B : Nat) (l : List KV) (s k : Nat) (u : Value) (wr : World) : Prop :=
  ∃ vs, wr.ownsRow B 51 1 u k vs ∧ ∀ j : Nat, j < k → ∃ x, vs[j]? = some x ∧ wr.ownsRow B 105 2 x (chunkL l s j).length (fl encP (chunkL l s j))
theorem Cs.below {B : Nat} {l : List KV} {s k : Nat} {u : Value} {w w' : World} (h : Cs B l s k u w) (hb : Below w.heap.size w w') : Cs B l s k u w' := by
  obtain ⟨vs, h1, h2⟩ := h
  refine ⟨vs, owns_below h1 hb, fun j hj => ?_⟩
  obtain ⟨x, hx, ho⟩ := h2 j hj
  exact ⟨x, hx, owns_below ho hb⟩
theorem Cs.lis {B : Nat} {l : List KV} {s k : Nat} {u : Value} {w : World} (h : Cs B l s k u w) : Lis w u ((List.range k).map fun j => chunkL l s (j : Nat)) := by
  obtain ⟨vs, h1, h2⟩ := h
  have hl : vs.length = k := by have := h1.1; omega
  refine ⟨vs, Reads.own encL_len (by decide) (by rw [fl_encL]; exact h1), by simp [hl], fun j c hj => ?_⟩
  have hjk : j < k := by have := (List.getElem?_eq_some_iff.1 hj).1; simpa using this
  rw [List.getElem?_map, List.getElem?_range hjk] at hj
  cases hj
  obtain ⟨x, hx, ho⟩ := h2 j hjk
  exact ⟨x, hx, Reads.own encP_len (by decide) ho⟩
/-- One more chunk. -/
theorem Cs.more {B : Nat} {l : List KV} {s k : Nat} {u u' x : Value} {w w' : World} {vs : List Value} (h : w.ownsRow B 51 1 u k vs) (h2 : ∀ j : Nat, j < k → ∃ x, vs[j]? = some x ∧ w.ownsRow B 105 2 x (chunkL l s j).length (fl encP (chunkL l s j)))
    (hx : w.ownsRow B 105 2 x (chunkL l s k).length (fl encP (chunkL l s k))) (h' : w'.ownsRow B 51 1 u' (k + 1) (vs ++ [x])) (hg : w.grownBy w' u.ownBlock) : Cs B l s (k + 1) u' w' := by
  have hl : vs.length = k := by have := h.1; omega
  refine ⟨_, h', fun j hj => ?_⟩
  by_cases e : j = k
  · subst e
    exact ⟨x, by rw [List.getElem?_append_right (by omega), hl]; simp, owns_grown hx h (by decide) hg⟩
  · obtain ⟨y, hy, ho⟩ := h2 j (by omega)
    exact ⟨y, by rw [List.getElem?_append_left (by omega)]; exact hy, owns_grown ho h (by decide) hg⟩
theorem rowsAt {B : Nat} {l : List KV} {s k : Nat} {vs : List Value} {w w' : World} (h : ∀ j : Nat, j < k → ∃ x, vs[j]? = some x ∧ w.ownsRow B 105 2 x (chunkL l s j).length (fl encP (chunkL l s j))) (hb : Below w.heap.size w w') : ∀ j : Nat, j < k → ∃ x, vs[j]? = some x ∧ w'.ownsRow B 105 2 x (chunkL l s j).length (fl encP (chunkL l s j)) := by
  intro j hj
  obtain ⟨x, hx, ho⟩ := h j hj
  exact ⟨x, hx, owns_below ho hb⟩
theorem whole_take (l : List KV) {s : Nat} : ∀ k : Nat, (k : Int) ≤ chunksI l.length s → ((List.range k).map fun j => chunkL l s (j : Nat)).flatten = l.take (k * s)
  | 0, _ => by simp
  | k + 1, h => by
    rw [List.range_succ, List.map_append, List.flatten_append, whole_take l k (by omega)]
    have hc := chunkL_some (l := l) (s := s) (q := k) (by omega)
    rw [show (List.map (fun j => chunkL l s (j : Nat)) [k]).flatten = chunkL l s (k : Nat) by simp, hc, Nat.add_mul, Nat.one_mul, List.take_add]
theorem whole_all (l : List KV) {s n : Nat} (hs : 1 ≤ s) (hn : chunksI l.length s = n) : ((List.range n).map fun j => chunkL l s (j : Nat)).flatten = l := by
  rw [whole_take l n (by omega), List.take_of_length_le]
  have := chunksI_mul (n := l.length) (s := s) (by omega)
  rw [hn, ← Int.natCast_mul] at this
  omega

section
variable {W : World} {A : AtV} {b : Nat} {ws : List WinV} {Z : List SX} {v : Value} {I : Nat → Prop}
set_option maxHeartbeats 8000000 in
theorem joined_any (w : World) (hA : AtOk A) (h : Md W A b ws Z v I w) {p : Nat} (hp : p < A.num) :
    Calls Tryz.prog 33 #[pt b, .int .i64 p] w (PairsNew w (A.list p)) := by
  obtain ⟨i0, hi, hz0, hz1, hz2⟩ := info_parts Tryz.infoS
  have HM := hid h
  have HOK := hid hA
  obtain ⟨s, hs⟩ : ∃ s : Nat, A.size = s := ⟨A.size.toNat, by have := hA.s1; omega⟩
  have hs1 : 1 ≤ s := by have := hA.s1; omega
  have hs8 : s ≤ 8 := by have := hA.s8; omega
  have hl40 := hA.list_le p
  have hc := hA.cnt_bd p
  obtain ⟨n, hn⟩ : ∃ n : Nat, A.cnt p = n := ⟨(A.cnt p).toNat, by omega⟩
  rw [hn] at hc
  have hn40 : n ≤ 40 := by omega
  have hat := counts_at hp
  rw [hn] at hat
  have HAT := hid hat
  have HN := hid (show chunksI (A.list p).length s = n from by rw [← hs]; exact hn)
  have HS := hid hs
  have hp0 : (0 : Int) ≤ (p : Int) := by omega
  have hpn : (p : Int) < (A.num : Int) := by omega
  have dp : decide ((p : Int) < (A.num : Int)) = true := by simp; omega
  have HP := hid hp
  clear h hA hn hc hat hs
  go_enter Tryz.func33, Tryz.ntmps33
  go_wp2_with fail
  refine (counts_done w HOK.out HM.out).mono ?_
  rintro e w1 ⟨ao, c, rfl, ho, hb1⟩
  have HO1 := hid ho
  have HB1 := hid hb1
  clear ho hb1
  go_wp2
  go_loopw [6, 7] (fun u i wr => ∃ k : Nat, k ≤ n ∧ i = .int .i64 k ∧ Cs w.heap.size (A.list p) s k u wr ∧ wr.ownsRow w.heap.size 3 1 (.slice ao A.num c) A.num (ict A.counts) ∧ Below w.heap.size w wr) (fun _ i _ => n - (intOf i).toNat)
  case atStart => exact ⟨0, by omega, rfl, ⟨[], World.ownsRow_nil _ _ _ _, fun j h => by omega⟩, HO1.out, HB1.out⟩
  case round =>
    clear HO1 HB1
    obtain ⟨k, hk, rfl, hcs, hco, hbel⟩ := hrel
    obtain ⟨cb, co, x, hx, rfl, hcb, hcc⟩ := (Is.owned hco).cell (j := p) (by rw [counts_len]; exact HP.out)
    rw [HAT.out] at hx
    cases hx
    have HCs := hid hcs
    have HCO := hid hco
    have hsz := hbel.size
    clear hcs hco
    have d40 : decide ((n : Int) ≤ 40) = true := by simp; omega
    by_cases hlt : k < n
    · have d4 : decide ((k : Int) < (n : Int)) = true := by simp; omega
      go_wp2_with fail
      refine (mpChunk_any wr HOK.out (HM.out.below hbel) p k).mono ?_
      rintro e w2 ⟨x, rfl, ho2, hb2⟩
      rw [if_pos ⟨hp0, hpn⟩, HS.out] at ho2
      replace ho2 : w2.ownsRow wr.heap.size 105 2 x (chunkL (A.list p) s k).length (fl encP (chunkL (A.list p) s k)) := ho2
      obtain ⟨xo, xc, rfl⟩ := own_slice ho2
      have HO2 := hid (owns_mono ho2 hsz)
      have HB2 := hid (below_then hbel hb2 hbel.size)
      have HCs2 := hid (HCs.out.below hb2)
      have HCO2 := hid (owns_below HCO.out hb2)
      have hsz2 := HB2.out.size
      obtain ⟨vs, hvs, hall⟩ := HCs2.out
      have HVs := hid (hvs.alloc (.cells #[.slice xo (chunkL (A.list p) s k).length xc] 51))
      have HAll := hid (rowsAt hall (alloc_one w2 (.cells #[.slice xo (chunkL (A.list p) s k).length xc] 51)))
      clear ho2 hb2 hbel HCs HCs2 HCO hvs hall
      go_wp2_with (at_builtin; refine wpList_append_own _ rfl _ _ 22 rfl w.heap.size 51 i0 (.slice none 0 0) 1 24 Tryz.underlying22 hi hz0 hz1 hz2 rfl (by decide) _ k _ rfl HVs.out ⟨w2.heap.size, 0, none⟩ 1 1 [.slice xo (chunkL (A.list p) s k).length xc] rfl rfl (list_new w2 [.slice xo (chunkL (A.list p) s k).length xc] 51) (by intro u hu; simp at hu; subst hu; rfl) (by unfold maxLen; omega) (by omega) (by simp; omega) ?_; intro v3 w3 ho3 hg3 _)
      have HC3 := hid (Cs.more HVs.out HAll.out (owns_below HO2.out (alloc_one w2 _)) ho3 hg3)
      have HCO3 := hid (owns_grown (owns_below HCO2.out (alloc_one w2 (.cells #[.slice xo (chunkL (A.list p) s k).length xc] 51))) HVs.out (by decide) hg3)
      have HB3 := hid ((below_then HB2.out (alloc_one w2 (.cells #[.slice xo (chunkL (A.list p) s k).length xc] 51)) HB2.out.size).grown hg3 (by simp; omega) (fun q hq => (HVs.out.lt q hq).1))
      clear ho3 hg3 HVs HAll HO2 HCO2 HB2
      go_wp2
      go_roundw
      case rel => exact ⟨k + 1, by omega, by go_num, HC3.out, HCO3.out, HB3.out⟩
      case measure => simp [intOf]; omega
    · have hkn : k = n := by omega
      have d4 : decide ((k : Int) < (n : Int)) = false := by simp; omega
      have hl := HCs.out.lis
      rw [hkn] at hl
      have hw := whole_all (A.list p) hs1 HN.out
      have HJ := hid (join_any _ _ wr hl (by rw [hw]; omega))
      rw [hw] at HJ
      have HB := hid hbel
      clear hl hw hkn HCs hbel
      go_wp2_with fail
      refine HJ.out.mono ?_
      rintro e w2 ⟨u, rfl, ho, hb⟩
      have HO2 := hid (owns_mono ho hsz)
      have HB2 := hid (below_then HB.out hb HB.out.size)
      clear ho hb
      go_wp2
      go_ret
      exact ⟨u, rfl, HO2.out, HB2.out⟩
end
end Go.Proofs.YtfimoobgbodbmaaGreatDoor
/-! A configuration that lies boxed ahead of what is made. -/
namespace Go.Proofs.YtfimoobgbodbmaaGreatDoor
open Go.RowKit Go.Lib
set_option linter.unusedVariables false
set_option maxRecDepth 100000

abbrev cfgCs (s : SlJ) (c : CfgV) : Array Value := #[.slice s.so c.job.splits.length s.sc, .int .i64 c.job.parts, .slice s.mo c.job.mp.length s.mc, .slice s.co c.job.cb.length s.cc, .slice s.ro c.job.rd.length s.rc, .int .i64 c.job.chunk, .int .i64 c.job.window, .int .i64 c.job.fuel, .slice s.ko c.job.marks.length s.kc, .int .i64 c.workers, .int .i64 c.tries, .int .i64 c.timeout]
/-- A configuration that came in with w, and was boxed first of all. -/
structure Cf (w : World) (s : SlJ) (c : CfgV) (w' : World) : Prop where
  bel : Below w.heap.size w w'
  obj : w'.heap[w.heap.size]? = some (.cells (cfgCs s c) 28 (0, 0))
section
variable {w w1 w2 : World} {s : SlJ} {c : CfgV}
theorem Cf.new (w : World) (s : SlJ) (c : CfgV) : Cf w s c (w.alloc (.cells (cfgCs s c) 28)) := ⟨alloc_one _ _, new_block _ _⟩
theorem Cf.sav {S : Nat → Prop} (h : Cf w s c w1) (hs : Sav S w1 w2) (hn : ∀ g, S g → w.heap.size < g) : Cf w s c w2 :=
  ⟨h.bel.trans (hs.below (B := w.heap.size) (fun g hg => Nat.le_of_lt (hn g hg)) h.bel.size), hs.at h.obj fun e => Nat.lt_irrefl _ (hn _ e)⟩
theorem Cf.on (h : Cf w s c w1) (hb : Below w1.heap.size w1 w2) : Cf w s c w2 := h.sav (Sav.of_below (S := Non) hb) fun _ e => e.elim
theorem Cf.lt (h : Cf w s c w1) : w.heap.size < w1.heap.size := lt_of_block h.obj
theorem Cf.eqs (h : Cf w s c w1) : w1.cell? ⟨w.heap.size, 0, none⟩ = some (.slice s.so c.job.splits.length s.sc) ∧ w1.cell? ⟨w.heap.size, 1, none⟩ = some (.int .i64 c.job.parts) ∧ w1.cell? ⟨w.heap.size, 2, none⟩ = some (.slice s.mo c.job.mp.length s.mc) ∧ w1.cell? ⟨w.heap.size, 3, none⟩ = some (.slice s.co c.job.cb.length s.cc) ∧ w1.cell? ⟨w.heap.size, 4, none⟩ = some (.slice s.ro c.job.rd.length s.rc) ∧ w1.cell? ⟨w.heap.size, 5, none⟩ = some (.int .i64 c.job.chunk) ∧ w1.cell? ⟨w.heap.size, 6, none⟩ = some (.int .i64 c.job.window) ∧ w1.cell? ⟨w.heap.size, 7, none⟩ = some (.int .i64 c.job.fuel) ∧ w1.cell? ⟨w.heap.size, 8, none⟩ = some (.slice s.ko c.job.marks.length s.kc) ∧ w1.cell? ⟨w.heap.size, 9, none⟩ = some (.int .i64 c.workers) ∧ w1.cell? ⟨w.heap.size, 10, none⟩ = some (.int .i64 c.tries) ∧ w1.cell? ⟨w.heap.size, 11, none⟩ = some (.int .i64 c.timeout) :=
  ⟨cell_of_cells h.obj, cell_of_cells h.obj, cell_of_cells h.obj, cell_of_cells h.obj, cell_of_cells h.obj, cell_of_cells h.obj, cell_of_cells h.obj, cell_of_cells h.obj, cell_of_cells h.obj, cell_of_cells h.obj, cell_of_cells h.obj, cell_of_cells h.obj⟩
end
/-- What is made of all but the first call: greater than the configuration's place. -/
theorem fr_above {W : World} {s : SlJ} {c : CfgV} {w w' : World} {k b : Nat} {a lk : Int} {s' : SlJ} {I : Nat → Prop} (hc : Cf W s c w) (hn : ∀ g, I g → w.heap.size ≤ g) (h : Fr W c k a b s' lk I w') : ∀ g, I g → W.heap.size < g := fun g hg => by
  have := hc.lt
  have := hn g hg
  omega
end Go.Proofs.YtfimoobgbodbmaaGreatDoor
/-! What MapperPushes has beside the mapper: two arrays of four numbers, the counts; and that these tell the windows. -/
namespace Go.Proofs.YtfimoobgbodbmaaGreatDoor
open Go.RowKit Go.Lib
set_option linter.unusedVariables false
set_option maxRecDepth 100000

/-- An array of four numbers in block E. -/
structure ArI (E : Nat) (es : List Int) (w : World) : Prop where
  len : es.length = 4
  obj : w.heap[E]? = some (.cells (ict es).toArray 68 (0, 0))
section
variable {E : Nat} {es : List Int} {w w' : World}
theorem ArI.new (w : World) : ArI w.heap.size [0, 0, 0, 0] (w.alloc (.cells #[.int .i64 0, .int .i64 0, .int .i64 0, .int .i64 0] 68)) := ⟨rfl, new_block _ _⟩
theorem ArI.lt (h : ArI E es w) : E < w.heap.size := lt_of_block h.obj
theorem ArI.sav {S : Nat → Prop} (h : ArI E es w) (hs : Sav S w w') (hn : ¬ S E) : ArI E es w' := ⟨h.len, hs.at h.obj hn⟩
theorem ArI.below (h : ArI E es w) (hb : Below w.heap.size w w') : ArI E es w' := h.sav (Sav.of_below (S := Non) hb) fun e => e
theorem ict_get {l : List Int} {p : Nat} {x : Int} (h : l[p]? = some x) : (ict l)[p]? = some (.int .i64 x) := by
  unfold ict
  rw [List.getElem?_map, h]
  rfl
theorem ArI.cell (h : ArI E es w) {p : Nat} {x : Int} (hx : es[p]? = some x) : w.cell? ⟨E, p, none⟩ = some (.int .i64 x) := by
  rw [cell_of_cells h.obj, List.getElem?_toArray]
  exact ict_get hx
theorem ArI.free (h : ArI E es w) (p : Nat) : w.frozen? ⟨E, p, none⟩ = false := free_of_cells h.obj
theorem ArI.set (h : ArI E es w) (p : Nat) (x : Int) : ArI E (es.set p x) (w.setCell ⟨E, p, none⟩ (.int .i64 x)) := by
  refine ⟨by rw [List.length_set]; exact h.len, ?_⟩
  have := set_same (j := p) (v := .int .i64 x) h.obj
  rw [this]
  congr 2
  unfold ict
  rw [List.map_set, List.setIfInBounds_toArray]
theorem ArI.at (h : ArI E es w) {p : Nat} (hp : p < 4) : ∃ x, es[p]? = some x := ⟨es[p]'(by rw [h.len]; exact hp), List.getElem?_eq_getElem _⟩
end
/-- The arrays tell the windows' epochs and what is wanted next. -/
def Rel (ws : List WinV) (es ns : List Int) : Prop := ∀ (p : Nat) x, ws[p]? = some x → es[p]? = some x.epoch ∧ ns[p]? = some x.next
theorem rel_start {A : AtV} (hA : AtOk A) : Rel A.ws0 [0, 0, 0, 0] [0, 0, 0, 0] := by
  intro p x hx
  have hp : p < A.num := by have := (List.getElem?_eq_some_iff.1 hx).1; simpa [AtV.ws0] using this
  have h4 := hA.num_le
  rw [ws0_at hp] at hx
  cases hx
  match p, (show p < 4 by omega) with
  | 0, _ => exact ⟨rfl, rfl⟩
  | 1, _ => exact ⟨rfl, rfl⟩
  | 2, _ => exact ⟨rfl, rfl⟩
  | 3, _ => exact ⟨rfl, rfl⟩
theorem ack_at {ws : List WinV} {p : Nat} {y : WinV} (hy : ws[p]? = some y) (e n : Int) : ackWs ws p e n = ws.set p (ackW y e n) := by
  have hl := (List.getElem?_eq_some_iff.1 hy).1
  unfold ackWs
  rw [if_pos ⟨by omega, by omega⟩]
  apply List.ext_getElem?
  intro i
  show (ws.modify p _)[i]? = _
  rw [List.getElem?_modify]
  by_cases hi : p = i
  · subst hi
    rw [List.getElem?_set_self hl, hy]
    simp
  · rw [List.getElem?_set_ne hi]
    simp [hi]
/-- An ack that is not below the window's epoch. -/
theorem rel_ack {ws : List WinV} {es ns : List Int} (h : Rel ws es ns) (hl1 : es.length = 4) (hl2 : ns.length = 4) {p : Nat} {y : WinV} (hy : ws[p]? = some y) (hp : p < 4) {e n : Int} (h1 : 1 ≤ e) (h2 : y.epoch ≤ e) : Rel (ackWs ws p e n) (es.set p e) (ns.set p (max (if y.epoch < e then clipW y n else y.next) (clipW y n))) := by
  obtain ⟨k1, k2⟩ := ackW_beside (w := y) (n := n) h1 h2
  rw [ack_at hy]
  intro q x hx
  by_cases hq : p = q
  · subst hq
    rw [List.getElem?_set_self (List.getElem?_eq_some_iff.1 hy).1] at hx
    cases hx
    rw [List.getElem?_set_self (by omega), List.getElem?_set_self (by omega), k1, k2]
    exact ⟨rfl, rfl⟩
  · rw [List.getElem?_set_ne hq] at hx
    rw [List.getElem?_set_ne hq, List.getElem?_set_ne hq]
    exact h q x hx
/-- Any other. -/
theorem ack_else {ws : List WinV} {p e n : Int} (h : ∀ (q : Nat) y, p = q → ws[q]? = some y → ¬ (1 ≤ e ∧ y.epoch ≤ e)) : ackWs ws p e n = ws := by
  by_cases hp : 0 ≤ p ∧ p < ws.length
  · obtain ⟨q, rfl⟩ : ∃ q : Nat, p = q := ⟨p.toNat, by omega⟩
    have hq : q < ws.length := by omega
    rw [ack_at (List.getElem?_eq_getElem hq), ackW_else (h q _ rfl (List.getElem?_eq_getElem hq))]
    apply List.ext_getElem?
    intro i
    by_cases hi : q = i
    · subst hi
      rw [List.getElem?_set_self hq, List.getElem?_eq_getElem hq]
    · rw [List.getElem?_set_ne hi]
  · unfold ackWs
    rw [if_neg hp]
/-- All that stays beside the mapper. -/
structure Pv (w : World) (s : SlJ) (c : CfgV) (A : AtV) (b E X : Nat) (ao : Option Addr) (cc : Nat) (es ns : List Int) (ws : List WinV) (Z : List SX) (v : Value) (I : Nat → Prop) (w' : World) : Prop where
  cf : Cf w s c w'
  md : Md w A b ws Z v I w'
  ep : ArI E es w'
  nx : ArI X ns w'
  cnt : w'.ownsRow w.heap.size 3 1 (.slice ao A.num cc) A.num (ict A.counts)
  eI : ¬ I E
  xI : ¬ I X
  ne : E ≠ X
  cI : ∀ g, (Value.slice ao A.num cc).ownBlock = some g → ¬ I g
  iA : ∀ g, I g → w.heap.size < g
  eA : w.heap.size < E
  xA : w.heap.size < X
section
variable {w w1 w2 : World} {s : SlJ} {c : CfgV} {A : AtV} {b E X : Nat} {ao : Option Addr} {cc : Nat} {es ns : List Int} {ws ws' : List WinV} {Z : List SX} {v : Value} {I : Nat → Prop}
theorem Pv.on (h : Pv w s c A b E X ao cc es ns ws Z v I w1) (hb : Below w1.heap.size w1 w2) : Pv w s c A b E X ao cc es ns ws Z v I w2 :=
  ⟨h.cf.on hb, h.md.below hb, h.ep.below hb, h.nx.below hb, owns_below h.cnt hb, h.eI, h.xI, h.ne, h.cI, h.iA, h.eA, h.xA⟩
theorem Pv.ack (h : Pv w s c A b E X ao cc es ns ws Z v I w1) (hm : Md w A b ws' Z v I w2) (hs : Sav (fun g => ∃ z ∈ Z, z.b = g) w1 w2) : Pv w s c A b E X ao cc es ns ws' Z v I w2 := by
  have hI : ∀ g, (∃ z ∈ Z, z.b = g) → I g := fun g ⟨z, hz, he⟩ => h.md.ins g (.inr ⟨z, hz, .inr he⟩)
  exact ⟨h.cf.sav hs fun g hg => h.iA g (hI g hg), hm, h.ep.sav hs fun e => h.eI (hI _ e), h.nx.sav hs fun e => h.xI (hI _ e), owns_sav h.cnt hs fun g hg e => h.cI g hg (hI _ e), h.eI, h.xI, h.ne, h.cI, h.iA, h.eA, h.xA⟩
theorem Pv.setE (h : Pv w s c A b E X ao cc es ns ws Z v I w1) (p : Nat) (x : Int) : Pv w s c A b E X ao cc (es.set p x) ns ws Z v I (w1.setCell ⟨E, p, none⟩ (.int .i64 x)) := by
  have hs : Sav (Just E) w1 (w1.setCell ⟨E, p, none⟩ (.int .i64 x)) := (Sav.refl _ _).setCell (just _) p _
  have hc := h.cf.sav hs fun g hg => by rw [show g = E from hg]; exact h.eA
  exact ⟨hc, h.md.sav hs (fun g hg e => h.eI (by rw [← show g = E from e]; exact hg)) hc.bel, h.ep.set p x, h.nx.sav hs (fun e => h.ne (show X = E from e).symm), owns_sav h.cnt hs (fun g hg e => owns_ne h.cnt h.ep.obj (by decide) (by rw [hg, show g = E from e])), h.eI, h.xI, h.ne, h.cI, h.iA, h.eA, h.xA⟩
theorem Pv.setX (h : Pv w s c A b E X ao cc es ns ws Z v I w1) (p : Nat) (x : Int) : Pv w s c A b E X ao cc es (ns.set p x) ws Z v I (w1.setCell ⟨X, p, none⟩ (.int .i64 x)) := by
  have hs : Sav (Just X) w1 (w1.setCell ⟨X, p, none⟩ (.int .i64 x)) := (Sav.refl _ _).setCell (just _) p _
  have hc := h.cf.sav hs fun g hg => by rw [show g = X from hg]; exact h.xA
  exact ⟨hc, h.md.sav hs (fun g hg e => h.xI (by rw [← show g = X from e]; exact hg)) hc.bel, h.ep.sav hs (fun e => h.ne (show E = X from e)), h.nx.set p x, owns_sav h.cnt hs (fun g hg e => owns_ne h.cnt h.nx.obj (by decide) (by rw [hg, show g = X from e])), h.eI, h.xI, h.ne, h.cI, h.iA, h.eA, h.xA⟩
/-- A block that is newer than all of these turns. -/
theorem Pv.over {M : Nat} {t : TypeId} {cs : Array Value} (h : Pv w s c A b E X ao cc es ns ws Z v I w1) (hM : w1.heap[M]? = some (.cells cs t (0, 0))) (ht : t ≠ 3) (h1 : w.heap.size < M) (h2 : ¬ I M) (h3 : M ≠ E) (h4 : M ≠ X) (hs : Sav (Just M) w1 w2) : Pv w s c A b E X ao cc es ns ws Z v I w2 := by
  have hc := h.cf.sav hs fun g hg => by rw [show g = M from hg]; exact h1
  exact ⟨hc, h.md.sav hs (fun g hg e => h2 (by rw [← show g = M from e]; exact hg)) hc.bel, h.ep.sav hs (fun e => h3 (show E = M from e).symm), h.nx.sav hs (fun e => h4 (show X = M from e).symm), owns_sav h.cnt hs (fun g hg e => owns_ne h.cnt hM ht (by rw [hg, show g = M from e])), h.eI, h.xI, h.ne, h.cI, h.iA, h.eA, h.xA⟩
end
/-- How many of each part stand ahead. -/
def Many (l : List (Nat × Int)) (ms : List Int) : Prop := ∀ p : Nat, p < 4 → ms[p]? = some ((manyL l p : Nat) : Int)
theorem many_nil : Many [] [0, 0, 0, 0] := by
  intro p hp
  match p, hp with
  | 0, _ => rfl
  | 1, _ => rfl
  | 2, _ => rfl
  | 3, _ => rfl
theorem many_more {l : List (Nat × Int)} {k : Nat} {ms : List Int} {p : Nat} {s : Int} (h : Many (l.take k) ms) (hk : l[k]? = some (p, s)) (hl : ms.length = 4) (hp : p < 4) : Many (l.take (k + 1)) (ms.set p ((manyL (l.take k) p : Nat) + 1)) := by
  intro q hq
  obtain ⟨hkl, e⟩ := List.getElem?_eq_some_iff.1 hk
  rw [manyL_step hkl, e]
  by_cases hpq : p = q
  · subst hpq
    rw [List.getElem?_set_self (by omega), if_pos rfl]
    simp
  · rw [List.getElem?_set_ne hpq, h q hq, if_neg (by simpa using hpq)]
    simp
end Go.Proofs.YtfimoobgbodbmaaGreatDoor
