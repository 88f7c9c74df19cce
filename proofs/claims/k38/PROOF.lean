import PyProof.Rows.All
import Wide.All
import OpenK.AllK
import Wide.FinOn
import KE.KBits
import KE.BitLaws
import HandS.ForMost
import HandS.ForExc
import HandS.IsInst
import HandS.Wide
import HandS.WideBits
import HandS.WideMore
import HandS.Flow
import HandS.ExcInit
import HandS.Codes
import HandS.ExcField
import HandS.ExcIs
import KE.KExcIs
import KE.KIsAll
import HandS.More
import HandS.Dict
import HandS.CallLocal
import HandS.Zip
import HandS.Zip0
import HandS.Text
import HandS.Conv
import HandS.Iter
import HandS.Style
import HandS.Deep
import HandS.Flow
import PyProof.RulesDelMore
import PyProof.ZipIter
import PyProof.EnumMake
import PyProof.EnumFor
import KE.GoesMore
import HandS.TupAny
import HandS.MakeKwOnly
import HandS.NoneIn
import PySem.Challenge.RW_wasmhost_k38_memory_instructions
import HandS.Head0
import HandS.Head1
import HandS.Head2
set_option Elab.async false
set_option linter.all false
set_option maxRecDepth 100000
set_option maxHeartbeats 4000000
namespace Hd
open PySem PySem.W PySem.Calls PyProof.Rows
abbrev R : OpenRow := OpenLaw.row PySem.Challenge.rw_wasmhost_k38_memory_instructions
abbrev qv : Program := view R.prog [93]
def n0 : List PySem.Str := ["__name__", "HostError", "UnknownInstruction", "imported_items", "function_signatures", "table_limits", "memory_limits", "global_heads", "tag_signatures", "LISTS", "all_items", "count_items", "BLOCKS", "ACCESS_BITS", "shape_kinds"]
def n1 : List PySem.Str := ["bodies_of", "CodeFault", "Scope", "extend", "INSTRUCTIONS", "CONVERTED_KINDS", "COMPARISONS", "is_zero", "low_bits", "leading_zeros", "trailing_zeros", "ones", "extend_8", "extend_16", "extend_32"]
def n2 : List PySem.Str := ["unchanged", "ONE_OPERAND", "signature_of", "PLAIN_EFFECTS", "MEMORY_EFFECTS", "MOST_EXPONENTS", "local_get", "local_set", "local_tee", "global_get", "global_set", "br", "br_if", "return_effect", "call"]
def n3 : List PySem.Str := ["call_indirect", "throw", "RULES", "access_effect", "effect_of", "Level", "agree", "KindStack", "LOOSENING", "Walker", "walk_through", "MOST_PAGES", "UNKNOWN", "item_reason", "signature_reason"]
def n4 : List PySem.Str := ["tag_reason", "table_reason", "memory_reason", "import_reason", "function_reason", "constant_reason", "global_reason", "start_reason", "table_segment_reason", "memory_segment_reason", "first_fault", "memory_count_fault", "export_fault", "start_fault", "code_fault"]
def n5 : List PySem.Str := ["check", "Module", "_law_state", "_law_draw", "_law_access", "_law_case"]
def names : List PySem.Str := n0 ++ n1 ++ n2 ++ n3 ++ n4 ++ n5
local macro_rules | `(tactic| o_head $x) => `(tactic| exact False.elim ‹False›)
set_option maxRecDepth 100000 in
set_option maxHeartbeats 0 in
theorem pre (h : False) : PySem.Challenge.rw_wasmhost_k38_memory_instructions.Holds := by
  w_on; o_law; k_head
  all_goals exact h.elim
abbrev as0 : List Addr := [2, 3, 15, 22, 23, 24, 25, 28, 35, 37, 38, 40, 41, 42, 43, 44, 47, 50, 51, 52, 55, 56, 57, 59, 60, 62, 63, 64, 66, 67, 69, 70, 71, 74, 75, 76, 78, 79, 81, 82, 83, 84, 86, 87, 89, 90, 91, 93, 94, 96, 97, 98, 99, 101, 103, 104, 106, 107, 108, 110, 111, 113, 114, 115, 122, 124, 125, 127, 128, 129, 130, 131, 141, 143, 144, 146, 147, 148, 150, 151, 153, 154, 155, 157, 158, 160, 161, 162, 164, 165, 167, 168, 169, 171, 172, 174, 175, 176, 178, 179, 181, 182, 183, 185, 186, 188, 189, 190, 192, 193, 195, 196, 197, 199, 200, 202, 203, 204, 206, 207, 209, 210, 211, 212, 213, 214, 215, 218, 220, 221, 223, 224, 225, 226, 227, 228, 230, 231, 233, 234, 235, 237, 238, 240, 241, 242, 244, 245, 247, 248, 249, 251, 252, 254, 255, 256, 258, 259, 261, 262, 263, 265, 266, 268, 269, 270, 272, 273, 275, 276, 277, 279, 280, 282, 283, 284, 286, 287, 289, 290, 291, 292, 294, 295, 297, 298, 299, 300, 301, 302, 303, 304, 305, 306, 307, 308, 309, 310, 311, 312, 313, 314, 315, 316, 317, 318, 319, 320, 321, 322, 323, 324, 325, 326, 327, 328, 329, 331, 332, 334, 335, 336, 338, 339, 341, 342, 343, 345, 346, 348, 349, 350, 352, 353, 355, 356, 357, 359, 360, 362, 363, 364, 366, 367, 369, 370, 371, 373, 374, 376, 377, 378, 380, 381, 383, 384, 385, 387, 388, 390, 391, 392, 394, 395, 397, 398, 399, 401, 402, 404, 405, 406, 407, 409, 410, 412, 413, 414, 416, 417, 419, 420, 428, 430, 431, 433, 434, 435, 436, 437, 438, 439, 442, 444, 445, 447, 448, 456, 458, 459, 461, 462, 463, 465, 466, 468, 469, 470, 472, 473, 475, 476, 477, 479, 480, 482, 483, 484, 486, 487, 489, 490, 491, 493, 494, 496, 497, 498, 500, 501, 503, 504, 505, 507, 508, 510, 511, 512, 514, 515, 517, 518, 519, 521, 522, 524, 525, 526, 527, 528, 529, 530, 533, 541, 543, 544, 546, 547, 548, 550, 551, 553, 554, 555, 557, 558, 560, 561, 562, 564, 565, 567, 568, 569, 571, 572, 574, 575, 576, 578, 579, 581, 582, 583, 586, 587, 588, 590, 591, 593, 594, 595, 597, 598, 600, 601, 602, 603, 604, 605, 606, 609, 611, 612, 614, 615, 616, 617, 619, 620, 622, 623, 624, 626, 627, 629, 630, 631, 633, 634, 636, 637, 638, 640, 641, 643, 644, 645, 647, 648, 650, 651, 652, 654, 655, 657, 658, 659, 661, 662, 664, 665, 666, 668, 669, 671, 672, 673, 675, 676, 678, 679, 680, 682, 683, 685, 686, 687, 689, 690, 692, 693, 694, 696, 697, 699, 700, 701, 703, 704, 706, 707, 708, 710, 711, 713, 714, 715, 717, 718, 720, 721, 722, 724, 725, 727, 728, 729, 731, 732, 734, 735, 736, 738, 739, 741, 742, 750, 751, 752, 753, 754, 755, 756, 757, 758, 759, 760, 761, 763, 764, 766, 767, 768, 769, 770, 771, 772, 775, 777, 778, 780, 781, 782, 784, 785, 787, 788, 789, 791, 792, 794, 795, 796, 798, 799, 801, 802, 803, 806, 807]
theorem as_eq : ∀ P, as0 = (pre.heap_39 P).map (·.1) := fun _ => by kernel_rfl
noncomputable abbrev HK : Hook := kHook pre.heap_39 as0 as_eq
noncomputable def ob (s : SharedT) : HK.α := List.map (HandSHeadRun.getT s) as0
theorem ob_eq (s : SharedT) : ob s = HK.obs s.abs := by
  show as0.map (HandSHeadRun.getT s) = as0.map s.abs.heap.get?
  rw [show HandSHeadRun.getT s = s.abs.heap.get? from funext fun a => HandSHeadRun.getT_eq s a]
set_option maxRecDepth 100000 in
set_option maxHeartbeats 0 in
theorem run0 : ∀ w : World, (fun w => HandSHeadRun.RunEq R qv HK ob 9000 names w) (w.withFollow "special-get-raises" false) := fun w os => by kernel_rfl
set_option maxRecDepth 100000 in
set_option maxHeartbeats 0 in
theorem run1 : ∀ w : World, (fun w => HandSHeadRun.RunEq R qv HK ob 9000 names w) (w.withFollow "special-get-raises" true) := fun w os => by kernel_rfl
theorem run (w : World) : HandSHeadRun.RunEq R qv HK ob 9000 names w := byRow2 "special-get-raises" (P := fun w => HandSHeadRun.RunEq R qv HK ob 9000 names w) run0 run1 w
set_option maxRecDepth 100000 in
set_option maxHeartbeats 0 in
theorem opn : opening R.prog = plainProg R.prog.main.scope.names := by kernel_rfl
set_option maxRecDepth 100000 in
set_option maxHeartbeats 0 in
theorem fen (s : Shared) : fenceModules? R.prog s = some s := by kernel_rfl
end Hd
namespace V
open PySem PySem.Spec PyProof.Rows L2
/-! ### a def that may be called by its name -/
structure Cal (P : Program) (w : World) (K : PySem.W.Frag) (mg : Str → Option Value) (base : Heap) (C : CXT) (k : Nat) (x : Str) (sp : Sp) : Prop where
  ex : ∃ (f : Addr) (fd : FuncData) (ps : List Str), FnOk P w K mg base C k f fd ps sp ∧ mg x = some (.ref f) ∧ PySem.W.keepIn K (.ref f) = true ∧ Binds K fd ps []
section
variable {P : Program} {w : World} {K : PySem.W.Frag} {mg : Str → Option Value} {base : Heap} {k : Nat} {x : Str} {sp sp' : Sp} {C : CXT}
theorem Cal.mono (c : Cal P w K mg base C k x sp) {j : Nat} (h : k ≤ j) : Cal P w K mg base C j x sp := by
  obtain ⟨f, fd, ps, F, m, kp, b⟩ := c.ex
  exact ⟨f, fd, ps, F.mono h, m, kp, b⟩
theorem Cal.imp (c : Cal P w K mg base C k x sp) (h : ∀ vs H Q E, sp' vs H Q E → sp vs H Q E) : Cal P w K mg base C k x sp' := by
  obtain ⟨f, fd, ps, F, m, kp, b⟩ := c.ex
  exact ⟨f, fd, ps, F.imp h, m, kp, b⟩
/-- a def as the top leaves it -/
structure Def (K : PySem.W.Frag) (mg : Str → Option Value) (x : Str) (st : Stmt) (ps : List Str) : Prop where
  ex : ∃ (f : Addr) (fd : FuncData), L2.Fun K x x st f fd ∧ mg x = some (.ref f) ∧ Binds K fd ps []
theorem Def.ok {st : Stmt} {N ps : List Str} (D : Def K mg x st ps) (S : FnScope N ps (defScope st)) (len : ∀ vs H Q E, sp vs H Q E → vs.length = ps.length)
    (hbody : ∀ (f : Addr) (cdv : Value) (A : Around) (outer : List Env) (s : Shared) (H : Hp) (vs : List V) (Q : VK) (E : XK), Room k (A.deeper (envOfC x (defScope st) s.heap.objs.size f cdv)) → sp vs H Q E →
      ∃ t, PSs (cxOf CX0 P w K mg base N x (defScope st) f cdv A outer s H E).nox (defBody st) t ∧ t { nx := fun _ H' => Q .non H', rt := Q } (start N vs) H) : Cal P w K mg base CX0 (k + 1) x sp := by
  obtain ⟨f, fd, F, m, b⟩ := D.ex
  exact ⟨f, fd, ps, F.ok S len (hbody f), m, F.kp, b⟩
theorem Def.okX {st : Stmt} {N ps : List Str} (D : Def K mg x st ps) (S : FnScope N ps (defScope st)) (len : ∀ vs H Q E, sp vs H Q E → vs.length = ps.length)
    (hbody : ∀ (f : Addr) (cdv : Value) (A : Around) (outer : List Env) (s : Shared) (H : Hp) (vs : List V) (Q : VK) (E : XK), Room k (A.deeper (envOfC x (defScope st) s.heap.objs.size f cdv)) → sp vs H Q E →
      ∃ t, PSs (cxOf (L2.CX P w) P w K mg base N x (defScope st) f cdv A outer s H E) (defBody st) t ∧ t { nx := fun _ H' => Q .non H', rt := Q } (start N vs) H) : Cal P w K mg base (L2.CX P w) (k + 1) x sp := by
  obtain ⟨f, fd, F, m, b⟩ := D.ex
  exact ⟨f, fd, ps, F.okX S len (hbody f), m, F.kp, b⟩
end
section
variable {X : Cx} {k j : Nat} {x : Str} {sp : Sp} {p pos : Pos} {e : Expr} {es : List Expr} {t : TA} {C : CXT} {E : XK}
theorem pe_cE (c : Cal X.prog X.w X.K X.mg X.base C k x sp) (hr : Room j X.A) (hk : k ≤ j) (hx : Passes C X E) (hg : Gl X x) (ha : PA X (e :: es) t)
    (hdb : (x == ("__debug__" : Str)) = false := by decide) (he : starEach (e :: es) X.env = (false, eval e X.env) :: starEach es X.env := by rfl) (hpl : (backTo pos (starEach es X.env)).any (·.1) = false := by rfl) :
    PE X (.Call (.Name x p) (e :: es) [] pos) (tCall sp [] E t) := by
  obtain ⟨f, fd, ps, F, hm, kp, b⟩ := c.ex
  exact pe_call F (hr.mono hk) hg hm kp b .nil hx ha hdb he hpl
theorem pe_cE0 (c : Cal X.prog X.w X.K X.mg X.base C k x sp) (hr : Room j X.A) (hk : k ≤ j) (hx : Passes C X E) (hg : Gl X x)
    (hdb : (x == ("__debug__" : Str)) = false := by decide) : PE X (.Call (.Name x p) [] [] pos) (tCall sp [] E tNil) := by
  obtain ⟨f, fd, ps, F, hm, kp, b⟩ := c.ex
  exact pe_call0 F (hr.mono hk) hg hm kp b .nil hx hdb
/-- a def that lets nothing out -/
theorem pe_c (c : Cal X.prog X.w X.K X.mg X.base CX0 k x sp) (hr : Room j X.A) (hk : k ≤ j) (hg : Gl X x) (ha : PA X (e :: es) t)
    (hdb : (x == ("__debug__" : Str)) = false := by decide) (he : starEach (e :: es) X.env = (false, eval e X.env) :: starEach es X.env := by rfl) (hpl : (backTo pos (starEach es X.env)).any (·.1) = false := by rfl) :
    PE X (.Call (.Name x p) (e :: es) [] pos) (tCall sp [] E0 t) := pe_cE c hr hk pass0 hg ha hdb he hpl
theorem pe_c0 (c : Cal X.prog X.w X.K X.mg X.base CX0 k x sp) (hr : Room j X.A) (hk : k ≤ j) (hg : Gl X x)
    (hdb : (x == ("__debug__" : Str)) = false := by decide) : PE X (.Call (.Name x p) [] [] pos) (tCall sp [] E0 tNil) := pe_cE0 c hr hk pass0 hg hdb
end
section
variable {X : Cx} {k j : Nat} {x : Str} {sp : Sp} {p pos : Pos} {e : Expr} {es : List Expr} {t : TA} {C : CXT} {E : L2.St → XK}
/-- a call within a try -/
theorem pe_cS (c : Cal X.prog X.w X.K X.mg X.base C k x sp) (hr : Room j X.A) (hk : k ≤ j) (hg : Gl X x) (hx : ∀ σ, PassesAt C X σ (E σ)) (ha : PA X (e :: es) t)
    (hdb : (x == ("__debug__" : Str)) = false := by decide) (he : starEach (e :: es) X.env = (false, eval e X.env) :: starEach es X.env := by rfl) (hpl : (backTo pos (starEach es X.env)).any (·.1) = false := by rfl) : PE X (.Call (.Name x p) (e :: es) [] pos) (tCallS sp E t) := by
  obtain ⟨f, fd, ps, F, hm, kp, b⟩ := c.ex
  exact pe_callS F (hr.mono hk) hg hm kp b hx ha hdb he hpl
end
theorem hu64 {A : Around} {k : Nat} (hr : Room k A) : A.units + 64 < cLine := by have := hr.un; omega
/-! ### numbers -/
theorem small64 {n : Nat} (h : n ≤ 1000000) : n ≤ sizeLine := Nat.le_trans h (by decide)
theorem small64' {n : Nat} (h : n ≤ 1000000) : n < sizeLine := Nat.lt_of_le_of_lt h (by decide)
theorem shl1 {j : Int} (h : 0 ≤ j) (h2 : j ≤ 100000) : CShl 1 j := by
  obtain ⟨n, rfl⟩ := Int.eq_ofNat_of_zero_le h
  exact shl_ok (n := 1) (by decide) (by omega)
theorem shlN {i j : Int} (hi : i.natAbs < 2 ^ 1000) (h : 0 ≤ j) (h2 : j ≤ 100000) : CShl i j := by
  obtain ⟨n, rfl⟩ := Int.eq_ofNat_of_zero_le h
  exact shl_ok (n := 1000) hi (by omega)
theorem pow_pos2 (k : Nat) : (0 : Int) < 2 ^ k := PySem.W.kbt_pos k
/-! ### heaps -/
theorem Same.new {H : Hp} {p : Addr} {o : HO} (h : H p = none) : Same H (upd H p o) := fun b x e => by
  rw [upd_ne (ne_of_none e h)]; exact e
theorem SqL.new {K : PySem.W.Frag} {H : Hp} {p : Addr} {xs : List V} : SqL K (upd H p (.lst xs)) p xs := .inl (.inl upd_same)
theorem SqT.new {K : PySem.W.Frag} {H : Hp} {p : Addr} {xs : List V} : SqT K (upd H p (.tup xs)) p xs := .inl (.inl upd_same)

/-! ### operators in the words that the readings like -/
section
variable {X : Cx}
/-- i << j, i of a usual size -/
theorem op_shlS : OpR X (binaryOp .LShift) (fun x y H Q => ∃ i j : Int, x = .int i ∧ y = .int j ∧ (i.natAbs < 2 ^ 1000 ∧ 0 ≤ j ∧ j ≤ 100000) ∧ Q (.int (i * 2 ^ j.toNat)) H) := by
  intro pins s σ H x y v u Q I rx ry h
  obtain ⟨i, j, rfl, rfl, ⟨c0, c1, c2⟩, q⟩ := h
  exact op_shlW pins s σ H _ _ v u Q I rx ry ⟨i, j, rfl, rfl, shlN c0 c1 c2, q⟩
theorem nat_small {i : Int} (h : i.natAbs ≤ 18446744073709551616) : i.natAbs < 2 ^ 1000 := Nat.lt_of_le_of_lt h (by decide +kernel)
/-- 1 << j -/
theorem op_shl1 : OpR X (binaryOp .LShift) (fun x y H Q => ∃ j : Int, x = .int 1 ∧ y = .int j ∧ (0 ≤ j ∧ j ≤ 100000) ∧ Q (.int (2 ^ j.toNat)) H) := by
  intro pins s σ H x y v u Q I rx ry h
  obtain ⟨j, rfl, rfl, ⟨c1, c2⟩, q⟩ := h
  refine op_shlW pins s σ H _ _ v u Q I rx ry ⟨1, j, rfl, rfl, shl1 c1 c2, ?_⟩
  show Q (.int (1 * 2 ^ j.toNat)) H
  rw [Int.one_mul]; exact q
end
/-- isinstance(x, T) of a value of a type of its own -/
theorem isi_int {K : PySem.W.Frag} {H : Hp} {i : Int} {Q : VK} (q : Q (.bl true) H) : rIsi K [.int i, .ty "int"] H Q := ⟨.int i, .ty "int", _, _, true, rfl, .ty _, .base (.int _), kit_ty (by decide +kernel), q⟩
theorem isi_int_bool {K : PySem.W.Frag} {H : Hp} {i : Int} {Q : VK} (q : Q (.bl false) H) : rIsi K [.int i, .ty "bool"] H Q := ⟨.int i, .ty "bool", _, _, false, rfl, .ty _, .base (.int _), kit_ty (by decide +kernel), q⟩
theorem isi_list {K : PySem.W.Frag} {H : Hp} {a : Addr} {xs : List V} {Q : VK} (h : H a = some (.lst xs)) (q : Q (.bl true) H) : rIsi K [.ref a, .ty "list"] H Q := ⟨.ref a, .ty "list", _, _, true, rfl, .ty _, .base (.lst h), kit_ty (by decide +kernel), q⟩
theorem isi_tup {K : PySem.W.Frag} {H : Hp} {a : Addr} {xs : List V} {Q : VK} (h : H a = some (.tup xs)) (q : Q (.bl true) H) : rIsi K [.ref a, .ty "tuple"] H Q := ⟨.ref a, .ty "tuple", _, _, true, rfl, .ty _, .base (.tup h), kit_ty (by decide +kernel), q⟩
theorem isi_str {K : PySem.W.Frag} {H : Hp} {z : Str} {Q : VK} (q : Q (.bl true) H) : rIsi K [.str z, .ty "str"] H Q := ⟨.str z, .ty "str", _, _, true, rfl, .ty _, .base (.str _), kit_ty (by decide +kernel), q⟩
/-! ### lists of ints -/
theorem at_ints {ns : List Int} {k : Nat} (h : k < ns.length) : atI (ns.map V.int) (k : Int) = some (.int (ns.getD k 0)) := atI_nat (by
  rw [List.getElem?_map, List.getElem?_eq_getElem h, List.getD_eq_getElem?_getD, List.getElem?_eq_getElem h]; rfl)
theorem cut_to (xs : List V) (k : Nat) : cutV xs none (some (k : Int)) = xs.take k := by
  unfold cutV
  rw [HT.sIx_nat, HT.sIx_none, List.drop_zero, Nat.sub_zero]
  rcases Nat.le_total k xs.length with h | h
  · rw [Nat.min_eq_left h]
  · rw [Nat.min_eq_right h, List.take_length, List.take_of_length_le h]
theorem cut_from (xs : List V) (k : Nat) : cutV xs (some (k : Int)) none = xs.drop k := by
  unfold cutV
  rw [HT.sIx_nat, HT.sIx_none]
  rcases Nat.le_total k xs.length with h | h
  · rw [Nat.min_eq_left h]; exact List.take_of_length_le (by rw [List.length_drop]; exact Nat.le_refl _)
  · rw [Nat.min_eq_right h, Nat.sub_self, List.take_zero, List.drop_eq_nil_of_le h]
/-! ### a reading, gone through as far as it goes by sight -/
local macro_rules | `(tactic| walk_at "side") => `(tactic| first
  | (show _ = _; rfl)
  | (show (0 : Int) < _; first | omega | exact pow_pos2 _)
  | (show (0 : Int) ≤ _; omega)
  | (show (0 : Int) ≤ _ ∧ _; constructor <;> omega)
  | (show (0 : Int) < _ ∧ _; constructor <;> omega)
  | (show (_ < _ ∧ _ < _) ∨ (_ < _ ∧ _ < _); first | exact .inl ⟨by omega, by omega⟩ | exact .inr ⟨by omega, by omega⟩))
local macro_rules | `(tactic| walk_at "loop") => `(tactic| (show ∃ W : (Nat → Nat → L2.St → Hp → Prop), _))
local macro_rules | `(tactic| walk_at "go1") => `(tactic| (fail_if_success walk_at "loop"); first
  | refine And.intro (show (_ : Int) ≤ _ by omega) ?_
  | refine ⟨_, rfl, ?_⟩
  | refine ⟨_, _, rfl, rfl, ?_⟩
  | refine ⟨_, rfl, rfl, ?_⟩
  | refine .inl ⟨_, rfl, ?_⟩
  | refine ⟨_, .ty "int", _, _, true, rfl, .ty _, .base (.int _), kit_ty (by decide +kernel), ?_⟩
  | refine ⟨_, .ty "bool", _, _, false, rfl, .ty _, .base (.int _), kit_ty (by decide +kernel), ?_⟩
  | refine ⟨_, .ty "bool", _, _, false, rfl, .ty _, .base (.str _), kit_ty (by decide +kernel), ?_⟩
  | refine ⟨_, .ty "str", _, _, true, rfl, .ty _, .base (.str _), kit_ty (by decide +kernel), ?_⟩
  | refine ⟨_, .ty "list", _, _, true, rfl, .ty _, .base (.lst (by assumption)), kit_ty (by decide +kernel), ?_⟩
  | refine ⟨_, .ty "tuple", _, _, true, rfl, .ty _, .base (.tup (by assumption)), kit_ty (by decide +kernel), ?_⟩
  | refine ⟨_, _, rfl, .inl (by assumption), ?_⟩
  | refine ⟨_, _, rfl, .inr (by assumption), ?_⟩
  | refine ⟨_, _, rfl, ?_⟩
  | refine ⟨_, _, _, _, rfl, rfl, by assumption, at_ints (by omega), ?_⟩
  | refine ⟨_, _, _, _, rfl, rfl, by assumption, rfl, ?_⟩
  | refine iteF ?_
  | refine iteT ?_
  | refine iteNS rfl ?_
  | (refine And.intro ?h1 ?h2; case h1 => first
    | walk_at "side"
    | assumption
    | (show (_ : Nat) ≤ _; omega)
    | (show (_ : Int) ≤ _; omega)
    | (show (_ : Int) < _; omega)
    | (show 0 ≤ sizeLine; decide)
    | (show 1 ≤ sizeLine; decide)
    | (show 2 ≤ sizeLine; decide)
    | (show 3 ≤ sizeLine; decide)
    | (show 4 ≤ sizeLine; decide)
    | (show (_ : Nat) ≤ _; decide)))
local macro_rules | `(tactic| walk_at "go") => `(tactic| repeat walk_at "go1")
/-! ### tests that read alone, loops -/
theorem tor_b {t u : TT} {σ : L2.St} {H : Hp} {Q : Bool → Hp → Prop} (b1 b2 : Bool) (h1 : ∀ Q, Q b1 H → t σ H Q) (h2 : ∀ Q, Q b2 H → u σ H Q) (q : Q (b1 || b2) H) : tOr t u σ H Q := by
  refine h1 _ ?_
  cases b1 with
  | true => rw [if_pos rfl]; exact q
  | false => rw [if_neg (by decide)]; exact h2 _ q
theorem tand_b {t u : TT} {σ : L2.St} {H : Hp} {Q : Bool → Hp → Prop} (b1 b2 : Bool) (h1 : ∀ Q, Q b1 H → t σ H Q) (h2 : ∀ Q, Q b2 H → u σ H Q) (q : Q (b1 && b2) H) : tAnd t u σ H Q := by
  refine h1 _ ?_
  cases b1 with
  | true => rw [if_pos rfl]; exact h2 _ q
  | false => rw [if_neg (by decide)]; exact q
theorem while_ev {c : TT} {tb : TS} {D : Ends} {σ : L2.St} {H : Hp} (Pv : L2.St → Hp → Prop) (μ : L2.St → Hp → Nat) (h0 : Pv σ H)
    (hs : ∀ σ H, Pv σ H → ∃ b : Bool, (∀ Q, Q b H → c σ H Q) ∧ (b = true → tb { D with nx := fun σ' H' => Pv σ' H' ∧ μ σ' H' < μ σ H, ct := fun σ' H' => Pv σ' H' ∧ μ σ' H' < μ σ H, bk := D.nx } σ H) ∧ (b = false → D.nx σ H)) : tWhile c tb D σ H := by
  refine ⟨fun m σ H => m = μ σ H ∧ Pv σ H, ⟨_, rfl, h0⟩, ?_⟩
  rintro m σ H ⟨rfl, p⟩
  obtain ⟨b, h1, h2, h3⟩ := hs σ H p
  refine h1 _ ?_
  cases b with
  | true => exact ⟨_, fun σ' H' ⟨p', l⟩ => ⟨_, l, rfl, p'⟩, h2 rfl⟩
  | false => exact h3 rfl
/-- the loops' bookkeeping, with what follows and what returns told apart -/
theorem for_listD {K : PySem.W.Frag} {a : Addr} {xs : List V} {g : TG} {tb : TS} {nx : L2.St → Hp → Prop} {rt : VK} {σ : L2.St} {H : Hp} (Pv : Nat → L2.St → Hp → Prop) (h0 : Pv 0 σ H) (hl : ∀ i σ H, i ≤ xs.length → Pv i σ H → SqL K H a xs)
    (hs : ∀ i x σ H, xs[i]? = some x → Pv i σ H → g x σ H fun σ2 H2 => tb { nx := Pv (i + 1), rt := rt, bk := nx, ct := Pv (i + 1) } σ2 H2) (hd : ∀ σ H, Pv xs.length σ H → nx σ H) :
    ∃ W : Nat → Nat → L2.St → Hp → Prop, (∃ m, W 0 m σ H) ∧ ∀ i m σ H, W i m σ H → ((Itl K a).stop i H ∧ nx σ H) ∨ ((Itl K a).go i H ∧ ∃ N : L2.St → Hp → Prop, (∀ σ' H', N σ' H' → ∃ m', m' < m ∧ W (i + 1) m' σ' H') ∧
      ∀ x H', (Itl K a).yld i H x H' → g x σ H' fun σ2 H2 => tb { nx := N, rt := rt, bk := nx, ct := N } σ2 H2) := for_list (D := { nx := nx, rt := rt }) Pv h0 hl hs hd
theorem for_rangeD {lo : Int} {n : Nat} {g : TG} {tb : TS} {nx : L2.St → Hp → Prop} {rt : VK} {σ : L2.St} {H : Hp} (Pv : Nat → L2.St → Hp → Prop) (h0 : Pv 0 σ H)
    (hs : ∀ i σ H, i < n → Pv i σ H → g (.int (lo + i)) σ H fun σ2 H2 => tb { nx := Pv (i + 1), rt := rt, bk := nx, ct := Pv (i + 1) } σ2 H2) (hd : ∀ σ H, Pv n σ H → nx σ H) :
    ∃ W : Nat → Nat → L2.St → Hp → Prop, (∃ m, W 0 m σ H) ∧ ∀ i m σ H, W i m σ H → ((Itr lo n).stop i H ∧ nx σ H) ∨ ((Itr lo n).go i H ∧ ∃ N : L2.St → Hp → Prop, (∀ σ' H', N σ' H' → ∃ m', m' < m ∧ W (i + 1) m' σ' H') ∧
      ∀ x H', (Itr lo n).yld i H x H' → g x σ H' fun σ2 H2 => tb { nx := N, rt := rt, bk := nx, ct := N } σ2 H2) := for_range (D := { nx := nx, rt := rt }) Pv h0 hs hd
/-! ### a comprehension that makes f of each item -/
theorem lc_map {K : PySem.W.Frag} {a : Addr} {xs : List V} {j : Nat} {te : TE} {σ : L2.St} {H1 : Hp} {D : Addr} {Qd : Hp → Prop} (f : V → V) (hD : H1 D = none) (hS : SqL K H1 a xs) (hn : xs.length ≤ 100000)
    (hs : ∀ x H Q, x ∈ xs → Same H1 H → (∀ H', Same H H' → Q (f x) H') → te ((σ.set j none).set j (some x)) H Q) (hd : ∀ H, Same H1 H → H D = some (.lst (xs.map f)) → Qd H) :
    ∃ W : Nat → Nat → Hp → Prop, (∃ m, W 0 m (upd H1 D (.lst []))) ∧ ∀ i m H, W i m H →
      ((Itl K a).stop i H ∧ Qd H) ∨ ((Itl K a).go i H ∧ ∃ Nx : Hp → Prop, (∀ H', Nx H' → ∃ m', m' < m ∧ W (i + 1) m' H') ∧ ∀ x H', (Itl K a).yld i H x H' → gName j x (wipe σ [j]) H' fun σ2 H2 => wipe σ2 [j] = wipe σ [j] ∧ tYes σ2 H2 fun b H3 =>
        if b = true then te σ2 H3 fun y H4 => ∃ acc, H4 D = some (.lst acc) ∧ acc.length < sizeLine ∧ Nx (upd H4 D (.lst (acc ++ [y]))) else Nx H3) := by
  refine lc_list (xs := xs) (fun i H => Same H1 H ∧ H D = some (.lst ((xs.take i).map f))) ⟨Same.new hD, by rw [upd_same]; rfl⟩ (fun i H _ h => h.1.seq hS) (fun i x H hx h => ?_) (fun H h => hd H h.1 (by rw [List.take_length] at h; exact h.2))
  have hi : i < xs.length := (List.getElem?_eq_some_iff.mp hx).1
  refine ⟨?_, ?_⟩
  · show (((σ.set j none).set j (some x)).set j none) = σ.set j none
    rw [List.set_set, List.set_set]
  · simp only [tYes, if_true]
    refine hs x H _ (List.mem_of_getElem? hx) h.1 fun H' s' => ?_
    refine ⟨_, s' _ _ h.2, ?_, fun b o e => ?_, ?_⟩
    · rw [List.length_map, List.length_take]; exact small64' (by omega)
    · have nb : b ≠ D := fun z => by rw [z, hD] at e; cases e
      rw [upd_ne nb]; exact s' _ _ (h.1 _ _ e)
    · rw [upd_same, List.take_add_one, hx, List.map_append]; rfl

/-! ### own errors with fields -/
/-- what the top has written of an own error's class, whose base is ValueError by some way -/
structure ExK (K : PySem.W.Frag) (mg : Str → Option Value) (x : Str) (C : Addr) : Prop where
  g : mg x = some (.ref C)
  T : OexC K C
  ga : PySem.W.findIn K (.ref C) "__getattribute__" = some (some (.builtin "BaseException.__getattribute__"))
  gg : PySem.W.findIn K (.ref C) "__getattr__" = some none
  hd : PySem.W.hasDictIn K C = true
  ca : PySem.W.findIn K (.ref C) "__class__" = some (some (.builtin "object.__class__"))
  sp : PySem.W.specialIn K (.builtin "object.__class__") "__get__" = some (some (.builtin "getset_descriptor.__get__"))
  tk : PySem.W.takesIn K (.builtin "object.__class__") = some true
  mr : PySem.W.mroIn K C (.type "object") = some true
theorem ExK.xf {K : PySem.W.Frag} {mg : Str → Option Value} {x : Str} {C : Addr} (k : ExK K mg x C) : XfC K C := ⟨k.ga, k.gg, k.T.exC, k.hd⟩
def spI1 (K : PySem.W.Frag) (C : Addr) (a : Str) : Sp := fun vs H Q _ => ∃ (s : Addr) (v : V), vs = [.ref s, v] ∧ H s = some (exo s C none) ∧
  ∀ d, H d = none → d ≠ s → Q .non (upd (upd H d (exd d [(a, v)])) s (exo s C (some d)))
def spI2 (K : PySem.W.Frag) (C : Addr) (a b : Str) : Sp := fun vs H Q _ => ∃ (s : Addr) (v u : V), vs = [.ref s, v, u] ∧ H s = some (exo s C none) ∧
  ∀ d, H d = none → d ≠ s → Q .non (upd (upd (upd H d (exd d [(a, v)])) s (exo s C (some d))) d (exd d [(b, u), (a, v)]))
theorem del_upd {H : Hp} {s d : Addr} {o o' : HO} (hs : H s = none) (hd : H d = none) (ne : d ≠ s) {K : Hp} (hK : ∀ b, b ≠ s → b ≠ d → K b = H b) : Same H (upd (del K s) d o) := fun b x e => by
  have nd : b ≠ d := ne_of_none e hd
  have ns : b ≠ s := ne_of_none e hs
  rw [upd_ne nd, del_ne ns, hK b ns nd]; exact e
/-- X(v): an error flies whose dict, new at d, holds the field; all else stands -/
theorem fly1 {K : PySem.W.Frag} {C : Addr} {a : Str} {v : V} {H : Hp} {Q : XK} (h : ∀ d Hf, Same H Hf → Hf d = some (.xd [(a, v)]) → Q (.ref C) (some d) Hf) :
    ([v] : List V).length ≤ 1000 ∧ ∀ s, H s = none → spI1 K C a (.ref s :: ([v] ++ [])) (upd H s (exo s C none))
      (fun v H2 => v = .non ∧ ∃ (d : Addr) (fs : List (Str × V)), H2 s = some (exo s C (some d)) ∧ H2 d = some (exd d fs) ∧ H d = none ∧ Q (.ref C) (some d) (upd (del H2 s) d (.xd fs))) (fun _ _ _ => False) := by
  refine ⟨by show 1 ≤ 1000; decide, fun s hs => ⟨s, v, rfl, upd_same, fun d hd ne => ⟨rfl, d, [(a, v)], upd_same, ?_, ?_, ?_⟩⟩⟩
  · rw [upd_ne ne, upd_same]
  · rw [upd_ne ne] at hd; exact hd
  · have hd' : H d = none := by rw [upd_ne ne] at hd; exact hd
    refine h d _ (del_upd (o' := .lst []) hs hd' ne fun b nb nd => ?_) upd_same
    rw [upd_ne nb, upd_ne nd, upd_ne nb]
theorem fly2 {K : PySem.W.Frag} {C : Addr} {a b : Str} {v u : V} {H : Hp} {Q : XK} (h : ∀ d Hf, Same H Hf → Hf d = some (.xd [(b, u), (a, v)]) → Q (.ref C) (some d) Hf) :
    ([v, u] : List V).length ≤ 1000 ∧ ∀ s, H s = none → spI2 K C a b (.ref s :: ([v, u] ++ [])) (upd H s (exo s C none))
      (fun v H2 => v = .non ∧ ∃ (d : Addr) (fs : List (Str × V)), H2 s = some (exo s C (some d)) ∧ H2 d = some (exd d fs) ∧ H d = none ∧ Q (.ref C) (some d) (upd (del H2 s) d (.xd fs))) (fun _ _ _ => False) := by
  refine ⟨by show 2 ≤ 1000; decide, fun s hs => ⟨s, v, u, rfl, upd_same, fun d hd ne => ⟨rfl, d, [(b, u), (a, v)], ?_, upd_same, ?_, ?_⟩⟩⟩
  · rw [upd_ne ne.symm, upd_same]
  · rw [upd_ne ne] at hd; exact hd
  · have hd' : H d = none := by rw [upd_ne ne] at hd; exact hd
    refine h d _ (del_upd (o' := .lst []) hs hd' ne fun b nb nd => ?_) upd_same
    rw [upd_ne nd, upd_ne nb, upd_ne nd, upd_ne nb]
section
variable {P : Program} {w : World} {K : PySem.W.Frag} {mg : Str → Option Value} {base : Heap} {C f : Addr} {fd : FuncData} {qual : Str}
/-- an __init__ that stores its one parameter, its two parameters, under their names -/
theorem init1 {st : Stmt} {a : Str} (F : L2.Fun K "__init__" qual st f fd) (S : FnScope ["self", a] ["self", a] (defScope st)) (T : OexC K C) (na : PySem.W.findIn K (.ref C) a = some none) {p1 p2 p3 p4 : Pos} (hb : defBody st = [.Assign [.Attribute (.Name "self" p1) a p2] (.Name a p3) p4])
    (va : Vis (defScope st) a) (vs : Vis (defScope st) "self") (d1 : (a == ("__debug__" : Str)) = false) (d2 : (a == ("__classdict__" : Str)) = false) : FnOk P w K mg base CX0 1 f fd ["self", a] (spI1 K C a) := by
  refine F.ok S (fun vs H Q E h => ?_) (fun cdv A outer s H vs Q E hr h => ?_)
  · obtain ⟨s, v, rfl, _⟩ := h; rfl
  · obtain ⟨s, v, rfl, hs, q⟩ := h
    rw [hb]
    refine ⟨_, pss_one (ps_ost (pe_var (i := 0) rfl (by assumption)) (pe_var (i := 1) rfl (by assumption) d1 d2)), ?_⟩
    exact ⟨_, rfl, _, rfl, s, C, rfl, T, na, .inl ⟨hs, fun d hd ne => q d hd ne⟩⟩
theorem init2 {st : Stmt} {a b : Str} (F : L2.Fun K "__init__" qual st f fd) (S : FnScope ["self", a, b] ["self", a, b] (defScope st)) (T : OexC K C) (na : PySem.W.findIn K (.ref C) a = some none) (nb : PySem.W.findIn K (.ref C) b = some none) {p1 p2 p3 p4 q1 q2 q3 q4 : Pos}
    (hb : defBody st = [.Assign [.Attribute (.Name "self" p1) a p2] (.Name a p3) p4, .Assign [.Attribute (.Name "self" q1) b q2] (.Name b q3) q4])
    (va : Vis (defScope st) a) (vb : Vis (defScope st) b) (vs : Vis (defScope st) "self") (d1 : (a == ("__debug__" : Str)) = false) (d2 : (a == ("__classdict__" : Str)) = false) (d3 : (b == ("__debug__" : Str)) = false) (d4 : (b == ("__classdict__" : Str)) = false) : FnOk P w K mg base CX0 1 f fd ["self", a, b] (spI2 K C a b) := by
  refine F.ok S (fun vs H Q E h => ?_) (fun cdv A outer s H vs Q E hr h => ?_)
  · obtain ⟨s, v, u, rfl, _⟩ := h; rfl
  · obtain ⟨s, v, u, rfl, hs, q⟩ := h
    rw [hb]
    refine ⟨_, pss_cons (ps_ost (pe_var (i := 0) rfl (by assumption)) (pe_var (i := 1) rfl (by assumption) d1 d2)) (pss_one (ps_ost (pe_var (i := 0) rfl (by assumption)) (pe_var (i := 2) rfl (by assumption) d3 d4))), ?_⟩
    refine ⟨_, rfl, _, rfl, s, C, rfl, T, na, .inl ⟨hs, fun d hd ne => ?_⟩⟩
    exact ⟨_, rfl, _, rfl, s, C, rfl, T, nb, .inr ⟨d, _, upd_same, by rw [upd_ne ne, upd_same], (by show 1 ≤ 900; decide), q d hd ne⟩⟩
end
/-- isinstance(e, c), e the caught error at a, of the class D, its dict at dd -/
theorem call_isX {X : Cx} {a D : Addr} {oe : Obj} {cls : Value} {d : Option Addr} {pn : List (Addr × Obj)} (hz : Zc cls d oe) (hf : ∃ vs, oe.data = .fields vs) {x : Str} (k : ExK X.K X.mg x D) : CallR (X.suite a ((a, oe) :: pn)) (.builtin "isinstance")
    (fun xs H Q => ∃ (c : V) (cv : Value) (b : Bool) (dd : Addr) (fs : List (Str × V)), xs = [.ref a, c] ∧ cls = .ref D ∧ d = some dd ∧ H dd = some (.xd fs) ∧ RelV c cv ∧ (∀ u, RelV c u → u = cv) ∧ PySem.W.kitOne X.K (.ref D) cv = some b ∧ Q (.bl b) H) := by
  intro pins s σ H xs us Q I r h
  obtain ⟨c, cv, b, dd, fs, rfl, rfl, rfl, ea, _, hcv, e, q⟩ := h
  obtain ⟨u1, u2, rfl, r1, r2⟩ := vals2 r
  cases r1
  have ec := hcv _ r2
  subst ec
  obtain ⟨hget, _⟩ := I.pin (a, oe) (List.mem_append.mpr (.inl List.mem_cons_self))
  obtain ⟨vs, hv⟩ := hf
  have hx : ObjOk X.prog X.w H s.heap dd (.xd fs) := I.hok dd _ ea
  obtain ⟨mA, ⟨od, es, ep, ho, hl⟩, hr⟩ := hx
  have J : PySem.W.InstAt s.heap a oe D (some od) := ⟨hget, hz.1, by unfold PySem.W.notCls; rw [hv] <;> rfl, by rw [hz.2]; exact ho⟩
  have hc : (PySem.W.clsIn X.K D).isSome = true := by
    have h := k.hd
    unfold PySem.W.hasDictIn at h
    cases hh : PySem.W.clsIn X.K D with
    | none => rw [hh] at h; cases h
    | some cd => rfl
  exact PySem.W.kia_one (PySem.W.kitx_exc hc k.ga k.gg k.T.exC k.ca k.sp k.tk k.mr) I.kIn J e (fun z => nomatch z) fun tk => ⟨.bl b, H, I.kept (t' := tk) fun _ _ z => z, rfl, q⟩
/-- what isinstance and an except clause ask of own classes -/
theorem kit_self {K : PySem.W.Frag} {C : Addr} : PySem.W.kitOne K (.ref C) (.ref C) = some true := by
  unfold PySem.W.kitOne
  rw [if_pos (by exact beq_self_eq_true (Value.ref C))]
theorem kit_two {K : PySem.W.Frag} {D C : Addr} {b : Bool} (ne : (Value.ref D == Value.ref C) = false) (hd : PySem.W.hasDictIn K C = true) (ht : PySem.W.typeIn K (.ref C) = some (.type "type")) (hs : PySem.W.subIn K (.ref D) (.ref C) = some b) : PySem.W.kitOne K (.ref D) (.ref C) = some b := by
  have hc : (PySem.W.clsIn K C).isSome = true := by
    unfold PySem.W.hasDictIn at hd
    cases hh : PySem.W.clsIn K C with
    | none => rw [hh] at hd; cases hd
    | some cd => rfl
  unfold PySem.W.kitOne PySem.W.kitCls
  rw [ne, if_neg (by decide)]
  show (if ((PySem.W.clsIn K C).isSome && PySem.W.typeIn K (.ref C) == some (.type "type")) = true then PySem.W.subIn K (.ref D) (.ref C) else none) = some b
  rw [hc, ht, hs]; rfl
theorem kit_ve {K : PySem.W.Frag} {D : Addr} (hs : PySem.W.subIn K (.ref D) (.type "ValueError") = some true) : PySem.W.kitOne K (.ref D) (.type "ValueError") = some true := by
  unfold PySem.W.kitOne PySem.W.kitCls
  rw [show (Value.ref D == Value.type "ValueError") = false from rfl, if_neg (by decide)]
  show (if PySem.W.kitMeta "ValueError" = true then PySem.W.subIn K (.ref D) (.type "ValueError") else none) = some true
  rw [if_pos (by decide +kernel), hs]

/-! ### methods and makers of own classes -/
structure DefM (K : PySem.W.Frag) (C : Addr) (m qual : Str) (st : Stmt) (ps : List Str) : Prop where
  ex : ∃ (f : Addr) (fd : FuncData), L2.Fun K m qual st f fd ∧ Meth K C m f ∧ Binds K fd ps []
structure DefI (K : PySem.W.Frag) (C : Addr) (qual : Str) (st : Stmt) (ps : List Str) : Prop where
  ex : ∃ (f : Addr) (fd : FuncData), L2.Fun K "__init__" qual st f fd ∧ Mk K C f ∧ Binds K fd ps []
structure CalM (P : Program) (w : World) (K : PySem.W.Frag) (mg : Str → Option Value) (base : Heap) (CX : CXT) (C : Addr) (k : Nat) (m : Str) (sp : Sp) : Prop where
  ex : ∃ (f : Addr) (fd : FuncData) (ps : List Str), FnOk P w K mg base CX k f fd ps sp ∧ Cls K C ∧ Meth K C m f ∧ Binds K fd ps []
structure CalI (P : Program) (w : World) (K : PySem.W.Frag) (mg : Str → Option Value) (base : Heap) (CX : CXT) (C : Addr) (k : Nat) (sp : Sp) : Prop where
  ex : ∃ (f : Addr) (fd : FuncData) (ps : List Str), FnOk P w K mg base CX k f fd ps sp ∧ Mk K C f ∧ Binds K fd ps []
section
variable {P : Program} {w : World} {K : PySem.W.Frag} {mg : Str → Option Value} {base : Heap} {k : Nat} {x m qual : Str} {sp sp' : Sp} {C : Addr}
theorem Def.none {st : Stmt} {N ps : List Str} (D : Def K mg x st ps) (S : FnScope N ps (defScope st)) : Cal P w K mg base CX0 (k + 1) x (fun _ _ _ _ => False) := D.ok S (fun _ _ _ _ h => h.elim) (fun _ _ _ _ _ _ _ _ _ _ h => h.elim)
theorem Def.noneX {st : Stmt} {N ps : List Str} (D : Def K mg x st ps) (S : FnScope N ps (defScope st)) : Cal P w K mg base (L2.CX P w) (k + 1) x (fun _ _ _ _ => False) := D.okX S (fun _ _ _ _ h => h.elim) (fun _ _ _ _ _ _ _ _ _ _ h => h.elim)
theorem DefM.ok {st : Stmt} {N ps : List Str} (D : DefM K C m qual st ps) (S : FnScope N ps (defScope st)) (cl : Cls K C) (len : ∀ vs H Q E, sp vs H Q E → vs.length = ps.length)
    (hbody : ∀ (f : Addr) (cdv : Value) (A : Around) (outer : List Env) (s : Shared) (H : Hp) (vs : List V) (Q : VK) (E : XK), Room k (A.deeper (envOfC qual (defScope st) s.heap.objs.size f cdv)) → sp vs H Q E →
      ∃ t, PSs (cxOf CX0 P w K mg base N qual (defScope st) f cdv A outer s H E).nox (defBody st) t ∧ t { nx := fun _ H' => Q .non H', rt := Q } (start N vs) H) : CalM P w K mg base CX0 C (k + 1) m sp := by
  obtain ⟨f, fd, F, mm, b⟩ := D.ex
  exact ⟨f, fd, ps, F.ok S len (hbody f), cl, mm, b⟩
theorem DefM.okX {st : Stmt} {N ps : List Str} (D : DefM K C m qual st ps) (S : FnScope N ps (defScope st)) (cl : Cls K C) (len : ∀ vs H Q E, sp vs H Q E → vs.length = ps.length)
    (hbody : ∀ (f : Addr) (cdv : Value) (A : Around) (outer : List Env) (s : Shared) (H : Hp) (vs : List V) (Q : VK) (E : XK), Room k (A.deeper (envOfC qual (defScope st) s.heap.objs.size f cdv)) → sp vs H Q E →
      ∃ t, PSs (cxOf (L2.CX P w) P w K mg base N qual (defScope st) f cdv A outer s H E) (defBody st) t ∧ t { nx := fun _ H' => Q .non H', rt := Q } (start N vs) H) : CalM P w K mg base (L2.CX P w) C (k + 1) m sp := by
  obtain ⟨f, fd, F, mm, b⟩ := D.ex
  exact ⟨f, fd, ps, F.okX S len (hbody f), cl, mm, b⟩
theorem DefM.noneX {st : Stmt} {N ps : List Str} (D : DefM K C m qual st ps) (S : FnScope N ps (defScope st)) (cl : Cls K C) : CalM P w K mg base (L2.CX P w) C (k + 1) m (fun _ _ _ _ => False) := D.okX S cl (fun _ _ _ _ h => h.elim) (fun _ _ _ _ _ _ _ _ _ _ h => h.elim)
theorem DefI.ok {st : Stmt} {N ps : List Str} (D : DefI K C qual st ps) (S : FnScope N ps (defScope st)) (len : ∀ vs H Q E, sp vs H Q E → vs.length = ps.length)
    (hbody : ∀ (f : Addr) (cdv : Value) (A : Around) (outer : List Env) (s : Shared) (H : Hp) (vs : List V) (Q : VK) (E : XK), Room k (A.deeper (envOfC qual (defScope st) s.heap.objs.size f cdv)) → sp vs H Q E →
      ∃ t, PSs (cxOf CX0 P w K mg base N qual (defScope st) f cdv A outer s H E).nox (defBody st) t ∧ t { nx := fun _ H' => Q .non H', rt := Q } (start N vs) H) : CalI P w K mg base CX0 C (k + 1) sp := by
  obtain ⟨f, fd, F, mm, b⟩ := D.ex
  exact ⟨f, fd, ps, F.ok S len (hbody f), mm, b⟩
end
section
variable {X : Cx} {k j : Nat} {x m : Str} {sp : Sp} {p pos apos : Pos} {o e : Expr} {es : List Expr} {ta : TE} {t : TA} {CX : CXT} {E : XK} {C : Addr}
theorem pe_mE {pl : Sem Bool} (c : CalM X.prog X.w X.K X.mg X.base CX C k m sp) (hr : Room j X.A) (hk : k ≤ j) (hx : Passes CX X E) (he : PE X o ta) (ha : PA X (e :: es) t)
    (hst : starEach (e :: es) X.env = (false, eval e X.env) :: starEach es X.env := by rfl) (hpl : (backTo pos (starEach es X.env)).any (·.1) = false := by rfl)
    (ht : eval (.Call (.Attribute o m apos) (e :: es) [] pos) X.env = (do
      let ov ← eval o X.env
      standAt apos.atName
      let (f, first) ← holding [ov] (getMethod ov m pl)
      callWith pos f first (backTo pos (starEach (e :: es) X.env)) (backToKw pos (keywordEach [] X.env))) := by rfl) :
    PE X (.Call (.Attribute o m apos) (e :: es) [] pos) (tMeth C m sp [] E ta t) := by
  obtain ⟨f, fd, ps, F, cl, mm, b⟩ := c.ex
  exact pe_meth (pl := pl) he cl mm F (hr.mono hk) b .nil hx ha hst hpl ht
theorem pe_mE0 {pl : Sem Bool} (c : CalM X.prog X.w X.K X.mg X.base CX C k m sp) (hr : Room j X.A) (hk : k ≤ j) (hx : Passes CX X E) (he : PE X o ta)
    (ht : eval (.Call (.Attribute o m apos) [] [] pos) X.env = (do
      let ov ← eval o X.env
      standAt apos.atName
      let (f, first) ← holding [ov] (getMethod ov m pl)
      callWith pos f first (backTo pos (starEach [] X.env)) (backToKw pos (keywordEach [] X.env))) := by rfl) :
    PE X (.Call (.Attribute o m apos) [] [] pos) (tMeth C m sp [] E ta tNil) := by
  obtain ⟨f, fd, ps, F, cl, mm, b⟩ := c.ex
  exact pe_meth0 (pl := pl) he cl mm F (hr.mono hk) b .nil hx ht
theorem pe_nw (c : CalI X.prog X.w X.K X.mg X.base CX0 C k sp) (hr : Room j X.A) (hk : k + 1 ≤ j) (hg : Gl X x) (hm : X.mg x = some (.ref C)) (ha : PA X (e :: es) t)
    (hdb : (x == ("__debug__" : Str)) = false := by decide) (he : starEach (e :: es) X.env = (false, eval e X.env) :: starEach es X.env := by rfl) (hpl : (backTo pos (starEach es X.env)).any (·.1) = false := by rfl) :
    PE X (.Call (.Name x p) (e :: es) [] pos) (tMake C sp [] E0 t) := by
  obtain ⟨f, fd, ps, F, mm, b⟩ := c.ex
  exact pe_make mm F (hr.mono hk) hg hm b .nil pass0 ha hdb he hpl
theorem pe_nw0 (c : CalI X.prog X.w X.K X.mg X.base CX0 C k sp) (hr : Room j X.A) (hk : k + 1 ≤ j) (hg : Gl X x) (hm : X.mg x = some (.ref C))
    (hdb : (x == ("__debug__" : Str)) = false := by decide) : PE X (.Call (.Name x p) [] [] pos) (tMake C sp [] E0 tNil) := by
  obtain ⟨f, fd, ps, F, mm, b⟩ := c.ex
  exact pe_make0 mm F (hr.mono hk) hg hm b .nil pass0 hdb
end
/-- the heap behind a change of some objects: all others stand -/
def SameBut (ps : List Addr) (H H' : Hp) : Prop := ∀ b o, b ∉ ps → H b = some o → H' b = some o
theorem Same.but {ps : List Addr} {H H' : Hp} (s : Same H H') : SameBut ps H H' := fun b o _ e => s b o e
theorem SameBut.refl {ps : List Addr} (H : Hp) : SameBut ps H H := fun _ _ _ e => e
theorem SameBut.trans {ps : List Addr} {H1 H2 H3 : Hp} (a : SameBut ps H1 H2) (b : SameBut ps H2 H3) : SameBut ps H1 H3 := fun c o n e => b c o n (a c o n e)
theorem SameBut.upd {ps : List Addr} {H H' : Hp} {a : Addr} {o : HO} (s : SameBut ps H H') (h : a ∈ ps) : SameBut ps H (upd H' a o) := fun b x n e => by
  have nb : b ≠ a := fun z => n (z ▸ h)
  rw [upd_ne nb]; exact s b x n e
theorem lk_hd {k : Str} {v : V} {r : List (Str × V)} : ((k, v) :: r).lookup k = some v := by
  simp [List.lookup]
theorem lk_tl {k a : Str} {v : V} {r : List (Str × V)} (h : ¬ k = a) : ((a, v) :: r).lookup k = r.lookup k := by
  show (match k == a with | true => some v | false => r.lookup k) = _
  rw [beq_eq_false_iff_ne.mpr h]
theorem pt_hd {k : Str} {v x : V} {r : List (Str × V)} : putF k v ((k, x) :: r) = (k, v) :: r := if_pos rfl
theorem pt_tl {k a : Str} {v x : V} {r s : List (Str × V)} (h : ¬ a = k) (e : putF k v r = s) : putF k v ((a, x) :: r) = (a, x) :: s := (if_neg h).trans (congrArg _ e)
theorem pt_nl {k : Str} {v : V} : putF k v [] = [(k, v)] := rfl
theorem made_same {H H2 : Hp} {x dx C : Addr} (nx : H x = none) (nd : H dx = none) (s : SameBut [x] (upd (upd H dx (.own x)) x (.ins C dx [])) H2) : Same H H2 := fun b o e => by
  have n1 : b ≠ x := ne_of_none e nx
  have n2 : b ≠ dx := ne_of_none e nd
  exact s b o (fun z => n1 (List.mem_singleton.mp z)) (by rw [upd_ne n1, upd_ne n2]; exact e)
theorem SameBut.new {ps : List Addr} {H H3 H4 : Hp} {t : Addr} (b3 : SameBut ps H H3) (b4 : SameBut [t] H3 H4) (h : H t = none) : SameBut ps H H4 := fun c o n e =>
  b4 c o (fun z => by rw [List.mem_singleton.mp z, h] at e; cases e) (b3 c o n e)
theorem Same.of_but {ps : List Addr} {H H1 H2 : Hp} (s : Same H H1) (b : SameBut ps H1 H2) (h : ∀ a ∈ ps, H a = none) : Same H H2 := fun c o e =>
  b c o (fun z => by rw [h c z] at e; cases e) (s c o e)
theorem SameBut.mono {ps qs : List Addr} {H H' : Hp} (s : SameBut ps H H') (h : ∀ a ∈ ps, a ∈ qs) : SameBut qs H H' := fun b o n e => s b o (fun z => n (h b z)) e

/-! ### makers with keyword-only parameters -/
structure DefK (K : PySem.W.Frag) (C : Addr) (qual : Str) (st : Stmt) (kws : List (Str × V)) : Prop where
  ex : ∃ (f : Addr) (fd : FuncData), FunD K "__init__" qual (defArgs st) (defBody st) (defScope st) [] kws f fd ∧ Mk K C f
structure CalK (P : Program) (w : World) (K : PySem.W.Frag) (mg : Str → Option Value) (base : Heap) (CX : CXT) (C : Addr) (k : Nat) (sp : Sp) (ks : List Str) (gV : List V → List V → List V) : Prop where
  ex : ∃ (f : Addr) (fd : FuncData) (ps : List Str) (g : List Value → List Value → List Value), FnOk P w K mg base CX k f fd ps sp ∧ Mk K C f ∧ KBn K fd ps 1 ks g gV
/-- an empty tuple of the written part -/
def EmpT (K : PySem.W.Frag) (a : Addr) : Prop := ∃ (o : Obj) (its : Array Value) (n : Nat), K.lookup a = some o ∧ o.cls = .type "tuple" ∧ o.data = .seq its n ∧ its.size ≤ sizeLine ∧ Vals [] its.toList
theorem EmpT.sq {K : PySem.W.Frag} {a : Addr} {H : Hp} (h : EmpT K a) : SqT K H a [] := .inr h
section
variable {P : Program} {w : World} {K : PySem.W.Frag} {mg : Str → Option Value} {base : Heap} {k : Nat} {qual : Str} {sp : Sp} {C : Addr}
theorem rel3 {vs mz zs : List V} {us mv ws : List Value} (r1 : Vals vs us) (r2 : Vals mz mv) (r3 : Vals zs ws) : Vals (vs ++ (zs ++ mz)) (us ++ (ws ++ mv)) := r1.append (r3.append r2)
theorem DefK.ok {st : Stmt} {N ps : List Str} {kws : List (Str × V)} (D : DefK K C qual st kws) (S : FnScope N ps (defScope st)) (ks : List Str) (ms : List (Str × V)) (hk : kws ≠ []) (hms : ∀ q ∈ ms, q ∈ kws)
    (hc : ∀ (D : Addr) (doc pm : Value) (an : Option Addr) (cdv ct : Value) (us mv ws : List Value), us.length = 1 → mv.length = ms.length → ws.length = ks.length →
      KwChain D ((ms.map (·.1)).zip mv) (bindArgs (PySem.W.fnOf "__init__" qual (defArgs st) (defBody st) (defScope st) .none (.ref D) doc pm an cdv ct) ⟨us, ks.zip ws⟩) (ps.zip (us ++ (ws ++ mv))))
    (len : ∀ vs H Q E, sp vs H Q E → vs.length = ps.length)
    (hbody : ∀ (f : Addr) (cdv : Value) (A : Around) (outer : List Env) (s : Shared) (H : Hp) (vs : List V) (Q : VK) (E : XK), Room k (A.deeper (envOfC qual (defScope st) s.heap.objs.size f cdv)) → sp vs H Q E →
      ∃ t, PSs (cxOf CX0 P w K mg base N qual (defScope st) f cdv A outer s H E).nox (defBody st) t ∧ t { nx := fun _ H' => Q .non H', rt := Q } (start N vs) H) :
    CalK P w K mg base CX0 C (k + 1) sp ks (fun vs zs => vs ++ (zs ++ ms.map (·.2))) := by
  obtain ⟨f, fd, F, mm⟩ := D.ex
  obtain ⟨mv, kb⟩ := F.kbinds0 (ps := ps) 1 ks ms (fun us mv ws => us ++ (ws ++ mv)) hk hms (fun r1 r2 r3 => rel3 r1 r2 r3) hc
  exact ⟨f, fd, ps, _, F.ok S len fun cdv A outer s H vs Q E hr h => by
    obtain ⟨t, ht, hq⟩ := hbody f cdv A outer s H vs Q E hr h
    exact ⟨t, ht.nox, hq⟩, mm, kb⟩
end
/-- given values and defaults, in the order of the names -/
def mixK {α : Type} : List Bool → List α → List α → List α
  | true :: b, w :: ws, ms => w :: mixK b ws ms
  | false :: b, ws, m :: ms => m :: mixK b ws ms
  | _, _, _ => []
theorem mix_rel : ∀ (b : List Bool) {zs mz : List V} {ws mv : List Value}, Vals zs ws → Vals mz mv → Vals (mixK b zs mz) (mixK b ws mv)
  | [], _, _, _, _, _, _ => .nil
  | true :: b, _, _, _, _, .cons r t, q => .cons r (mix_rel b t q)
  | true :: b, _, _, _, _, .nil, q => .nil
  | false :: b, _, _, _, _, p, .cons r t => .cons r (mix_rel b p t)
  | false :: b, _, _, _, _, .nil, .nil => .nil
  | false :: b, _, _, _, _, .cons _ _, .nil => .nil
section
variable {P : Program} {w : World} {K : PySem.W.Frag} {mg : Str → Option Value} {base : Heap} {k : Nat} {qual : Str} {sp : Sp} {C : Addr}
theorem DefK.okM {st : Stmt} {N ps : List Str} {kws : List (Str × V)} (D : DefK K C qual st kws) (b : List Bool) (S : FnScope N ps (defScope st)) (ks : List Str) (ms : List (Str × V)) (hk : kws ≠ []) (hms : ∀ q ∈ ms, q ∈ kws)
    (hc : ∀ (D : Addr) (doc pm : Value) (an : Option Addr) (cdv ct : Value) (us mv ws : List Value), us.length = 1 → mv.length = ms.length → ws.length = ks.length →
      KwChain D ((ms.map (·.1)).zip mv) (bindArgs (PySem.W.fnOf "__init__" qual (defArgs st) (defBody st) (defScope st) .none (.ref D) doc pm an cdv ct) ⟨us, ks.zip ws⟩) (ps.zip (us ++ mixK b ws mv)))
    (len : ∀ vs H Q E, sp vs H Q E → vs.length = ps.length)
    (hbody : ∀ (f : Addr) (cdv : Value) (A : Around) (outer : List Env) (s : Shared) (H : Hp) (vs : List V) (Q : VK) (E : XK), Room k (A.deeper (envOfC qual (defScope st) s.heap.objs.size f cdv)) → sp vs H Q E →
      ∃ t, PSs (cxOf CX0 P w K mg base N qual (defScope st) f cdv A outer s H E).nox (defBody st) t ∧ t { nx := fun _ H' => Q .non H', rt := Q } (start N vs) H) :
    CalK P w K mg base CX0 C (k + 1) sp ks (fun vs zs => vs ++ mixK b zs (ms.map (·.2))) := by
  obtain ⟨f, fd, F, mm⟩ := D.ex
  obtain ⟨mv, kb⟩ := F.kbinds0 (ps := ps) 1 ks ms (fun us mv ws => us ++ mixK b ws mv) hk hms (fun r1 r2 r3 => r1.append (mix_rel b r3 r2)) hc
  exact ⟨f, fd, ps, _, F.ok S len fun cdv A outer s H vs Q E hr h => by
    obtain ⟨t, ht, hq⟩ := hbody f cdv A outer s H vs Q E hr h
    exact ⟨t, ht.nox, hq⟩, mm, kb⟩
end
section
variable {X : Cx} {k j : Nat} {x : Str} {sp : Sp} {p pos : Pos} {kws : List Keyword} {tk : TA} {C : Addr} {ks : List Str} {gV : List V → List V → List V}
theorem pe_nk (c : CalK X.prog X.w X.K X.mg X.base CX0 C k sp ks gV) (hr : Room j X.A) (hk : k + 1 ≤ j) (hg : Gl X x) (hm : X.mg x = some (.ref C)) (hkw : PK X kws tk)
    (hall : (backToKw pos (keywordEach kws X.env)).all (·.1.isSome) = true := by rfl) (hks : (backToKw pos (keywordEach kws X.env)).filterMap (·.1) = ks := by rfl) (hdb : (x == ("__debug__" : Str)) = false := by decide)
    (hpl : ((backTo pos (starEach [] X.env)).any (·.1) || (backToKw pos (keywordEach kws X.env)).any (·.1.isNone)) = false := by rfl) :
    PE X (.Call (.Name x p) [] kws pos) (tMakeK C 0 ks.length sp gV E0 tNil tk) := by
  obtain ⟨f, fd, ps, g, F, mm, b⟩ := c.ex
  exact pe_makeK0 mm F (hr.mono hk) hg hm b pass0 hkw hall hks hdb hpl
end

/-! ### written tables of the module -/
/-- a statement that is never come to -/
def tNever : TS := fun _ _ _ => False
theorem ps_never {X : Cx} {s : Stmt} : PS X s tNever := ⟨fun _ _ _ _ _ _ h => h.elim⟩
theorem sqT_same {K : PySem.W.Frag} {H H' : Hp} {a : Addr} {xs : List V} (e : Same H H') (h : SqT K H a xs) : SqT K H' a xs := by
  rcases h with (h | ⟨o, h⟩) | h
  · exact .inl (.inl (e _ _ h))
  · exact .inl (.inr ⟨o, e _ _ h⟩)
  · exact .inr h
/-- a comprehension over a tuple -/
theorem lc_mapT {K : PySem.W.Frag} {a : Addr} {xs : List V} {j : Nat} {te : TE} {σ : L2.St} {H1 : Hp} {D : Addr} {Qd : Hp → Prop} (f : V → V) (hD : H1 D = none) (hS : SqT K H1 a xs) (hn : xs.length ≤ 100000)
    (hs : ∀ x H Q, x ∈ xs → Same H1 H → (∀ H', Same H H' → Q (f x) H') → te ((σ.set j none).set j (some x)) H Q) (hd : ∀ H, Same H1 H → H D = some (.lst (xs.map f)) → Qd H) :
    ∃ W : Nat → Nat → Hp → Prop, (∃ m, W 0 m (upd H1 D (.lst []))) ∧ ∀ i m H, W i m H →
      ((Itt K a).stop i H ∧ Qd H) ∨ ((Itt K a).go i H ∧ ∃ Nx : Hp → Prop, (∀ H', Nx H' → ∃ m', m' < m ∧ W (i + 1) m' H') ∧ ∀ x H', (Itt K a).yld i H x H' → gName j x (wipe σ [j]) H' fun σ2 H2 => wipe σ2 [j] = wipe σ [j] ∧ tYes σ2 H2 fun b H3 =>
        if b = true then te σ2 H3 fun y H4 => ∃ acc, H4 D = some (.lst acc) ∧ acc.length < sizeLine ∧ Nx (upd H4 D (.lst (acc ++ [y]))) else Nx H3) := by
  refine lc_tup (xs := xs) (fun i H => Same H1 H ∧ H D = some (.lst ((xs.take i).map f))) ⟨Same.new hD, by rw [upd_same]; rfl⟩ (fun i H _ h => sqT_same h.1 hS) (fun i x H hx h => ?_) (fun H h => hd H h.1 (by rw [List.take_length] at h; exact h.2))
  have hi : i < xs.length := (List.getElem?_eq_some_iff.mp hx).1
  refine ⟨?_, ?_⟩
  · show (((σ.set j none).set j (some x)).set j none) = σ.set j none
    rw [List.set_set, List.set_set]
  · simp only [tYes, if_true]
    refine hs x H _ (List.mem_of_getElem? hx) h.1 fun H' s' => ?_
    refine ⟨_, s' _ _ h.2, ?_, fun b o e => ?_, ?_⟩
    · rw [List.length_map, List.length_take]; exact small64' (by omega)
    · have nb : b ≠ D := fun z => by rw [z, hD] at e; cases e
      rw [upd_ne nb]; exact s' _ _ (h.1 _ _ e)
    · rw [upd_same, List.take_add_one, hx, List.map_append]; rfl
theorem for_zipD {K : PySem.W.Frag} {a b : Addr} {xs ys : List V} {g : TG} {tb : TS} {nx : L2.St → Hp → Prop} {rt : VK} {σ : L2.St} {H : Hp} (hl : xs.length = ys.length) (Pv : Nat → L2.St → Hp → Prop) (h0 : Pv 0 σ H) (hq : ∀ i σ H, Pv i σ H → SqT K H a xs ∧ SqT K H b ys)
    (hs : ∀ (i : Nat) (x y : V) (T : Addr) (σ : L2.St) (H : Hp), xs[i]? = some x → ys[i]? = some y → Pv i σ H → H T = none → g (.ref T) σ (upd H T (.tup [x, y])) fun σ2 H2 => tb { nx := Pv (i + 1), rt := rt, bk := nx, ct := Pv (i + 1) } σ2 H2) (hd : ∀ σ H, Pv xs.length σ H → nx σ H) :
    ∃ W : Nat → Nat → L2.St → Hp → Prop, (∃ m, W 0 m σ H) ∧ ∀ i m σ H, W i m σ H → ((RZ.ItzT K a b).stop i H ∧ nx σ H) ∨ ((RZ.ItzT K a b).go i H ∧ ∃ N : L2.St → Hp → Prop, (∀ σ' H', N σ' H' → ∃ m', m' < m ∧ W (i + 1) m' σ' H') ∧
      ∀ x H', (RZ.ItzT K a b).yld i H x H' → g x σ H' fun σ2 H2 => tb { nx := N, rt := rt, bk := nx, ct := N } σ2 H2) := RZ.for_zipT (D := { nx := nx, rt := rt }) hl Pv h0 hq hs hd
/-- a written tuple of texts -/
structure TupS (K : PySem.W.Frag) (a : Addr) (zs : List Str) : Prop where
  ex : ∃ (o : Obj) (its : Array Value) (n : Nat), K.lookup a = some o ∧ o.cls = .type "tuple" ∧ o.data = .seq its n ∧ its.size ≤ sizeLine ∧ Vals (zs.map V.str) its.toList
def chkS : List Str → List Value → Bool
  | [], [] => true
  | z :: zs, .str y _ :: us => decide (z = y) && chkS zs us
  | _, _ => false
theorem vals_strs : ∀ (zs : List Str) (us : List Value), chkS zs us = true → Vals (zs.map V.str) us
  | [], [], _ => .nil
  | z :: zs, u :: us, h => by
    cases u with
    | str y t =>
      have h' : (decide (z = y) && chkS zs us) = true := h
      rw [Bool.and_eq_true] at h'
      have r : RelV (V.str z) (.str y t) := by
        rw [of_decide_eq_true h'.1]
        exact ⟨t, rfl⟩
      exact .cons r (vals_strs zs us h'.2)
    | _ => cases h
  | [], _ :: _, h => nomatch h
  | _ :: _, [], h => nomatch h
theorem TupS.sq {K : PySem.W.Frag} {a : Addr} {zs : List Str} {H : Hp} (t : TupS K a zs) : SqT K H a (zs.map V.str) := .inr t.ex
def Rows (P : Params) : List DictEntry → List (Str × V) → Prop
  | [], [] => True
  | e :: r, (x, v) :: q => (∃ t, e.key = .str x t) ∧ e.hash = PyData.keyHash P x ∧ RelV v e.val ∧ Rows P r q
  | _, _ => False
/-- a written dict with text keys -/
structure DicV (K : PySem.W.Frag) (w : World) (a : Addr) (kvs : List (Str × V)) : Prop where
  ex : ∃ (es : Array DictEntry) (n : Nat), K.lookup a = some ⟨.type "dict", none, .dict es n, #[]⟩ ∧ (a == sysModules) = false ∧ Rows w.params es.toList kvs
def valS (kvs : List (Str × V)) (z : Str) : Option V := (kvs.find? fun p => decide (p.1 = z)).map (·.2)
theorem Rows.lit {P : Params} : ∀ {l : List DictEntry} {q : List (Str × V)}, Rows P l q → PySem.W.KeysLit P l
  | [], _, _ => True.intro
  | e :: r, [], h => nomatch h
  | e :: r, (x, v) :: q, ⟨⟨t, h1⟩, h2, _, h4⟩ => ⟨⟨x, t, h1, h2⟩, h4.lit⟩
theorem Rows.noref {P : Params} : ∀ {l : List DictEntry} {q : List (Str × V)}, Rows P l q → l.any (·.refKey) = false
  | [], _, _ => rfl
  | e :: r, [], h => nomatch h
  | e :: r, (x, v) :: q, ⟨⟨t, h1⟩, _, _, h4⟩ => by
    rw [List.any_cons, h4.noref, Bool.or_false]
    unfold DictEntry.refKey
    rw [h1]
theorem isStrOf_eq (z x : Str) (t : Tok) : Value.isStrOf z (.str x t) = decide (x = z) := by
  by_cases c : x = z
  · rw [decide_eq_true c, c]; simp [Value.isStrOf]
  · rw [decide_eq_false c]; simp [Value.isStrOf, c, Ne.symm c]
theorem Rows.find {P : Params} (z : Str) : ∀ {l : List DictEntry} {q : List (Str × V)}, Rows P l q → (match valS q z with
    | none => l.find? (·.key.isStr z) = none
    | some v => ∃ e, l.find? (·.key.isStr z) = some e ∧ RelV v e.val)
  | [], [], _ => rfl
  | [], _ :: _, h => nomatch h
  | e :: r, [], h => nomatch h
  | e :: r, (x, v) :: q, ⟨⟨t, h1⟩, _, h3, h4⟩ => by
    have ek : e.key.isStr z = decide (x = z) := by
      rw [h1, PySem.W.isStr_of]
      show Value.isStrOf z (.str x t) = _
      exact isStrOf_eq z x t
    have ih := h4.find z
    unfold valS at ih ⊢
    rw [List.find?_cons, List.find?_cons, ek]
    by_cases c : x = z
    · rw [decide_eq_true c]
      exact ⟨e, rfl, h3⟩
    · rw [decide_eq_false c]
      exact ih
theorem DicV.kd {K : PySem.W.Frag} {w : World} {a : Addr} {kvs : List (Str × V)} (d : DicV K w a kvs) : ∃ es n, KDict K w a es n := by
  obtain ⟨es, n, h1, h2, h3⟩ := d.ex
  exact ⟨es, n, h1, h3.lit, h2⟩
theorem DicV.ns {K : PySem.W.Frag} {w : World} {a : Addr} {kvs : List (Str × V)} (d : DicV K w a kvs) (z : Str) : match valS kvs z with
    | none => PySem.W.nsIn K a z = some none
    | some v => ∃ u, PySem.W.nsIn K a z = some (some u) ∧ RelV v u := by
  obtain ⟨es, n, h1, h2, h3⟩ := d.ex
  have h := h3.find z
  unfold PySem.W.nsIn
  rw [h1]
  split
  · rename_i e
    rw [e] at h
    simp only [h, h3.noref]
    rfl
  · rename_i v e
    rw [e] at h
    obtain ⟨en, h5, h6⟩ := h
    simp only [h5]
    exact ⟨_, rfl, h6⟩
section
variable {X : Cx} {d : Addr} {kvs : List (Str × V)}
def rInT (d : Addr) (kvs : List (Str × V)) : R2 := fun x y H Q => ∃ z : Str, x = .str z ∧ y = .ref d ∧ Q (.bl (valS kvs z).isSome) H
theorem op_inT (D : DicV X.K X.w d kvs) : OpR X (compareOp .In) (rInT d kvs) := by
  intro pins s σ H x y v u Q I rx ry h
  obtain ⟨z, rfl, rfl, q⟩ := h
  obtain ⟨es, n, k⟩ := D.kd
  have hn := D.ns z
  cases e : valS kvs z with
  | none =>
    rw [e] at hn q
    exact op_in_kd k pins s σ H _ _ v u Q I rx ry ⟨z, none, rfl, rfl, hn, q⟩
  | some v0 =>
    rw [e] at hn q
    obtain ⟨u0, hn, _⟩ := hn
    exact op_in_kd k pins s σ H _ _ v u Q I rx ry ⟨z, some u0, rfl, rfl, hn, q⟩
def rIxT (d : Addr) (kvs : List (Str × V)) : R2 := fun x y H Q => ∃ (z : Str) (v : V), x = .ref d ∧ y = .str z ∧ valS kvs z = some v ∧ Q v H
theorem ix_T (D : DicV X.K X.w d kvs) : IxR X (rIxT d kvs) := by
  intro value slice pins s σ H x y v u Q I rx ry h hs
  obtain ⟨z, v0, rfl, rfl, e, q⟩ := h
  have hn := D.ns z
  rw [e] at hn
  obtain ⟨u0, hn, hr⟩ := hn
  obtain ⟨es, n, h1, h2, h3⟩ := D.ex
  exact ix_kdict value slice pins s σ H (.ref d) (.str z) v u Q I rx ry ⟨d, z, v0, rfl, rfl, ⟨es, n, u0, h1, h3.lit, hn, hr⟩, q⟩ hs
def tGet2T (d : Addr) (kvs : List (Str × V)) (td ty tx : TE) : TE := fun σ H Q => td σ H fun x H1 => x = .ref d ∧ ty σ H1 fun y H2 => tx σ H2 fun v H3 => ∃ z : Str, y = .str z ∧ Q ((valS kvs z).getD v) H3
theorem pe_get2T {o e f : Expr} {apos cpos : Pos} {td ty tx : TE} (D : DicV X.K X.w d kvs) (ho : PE X o td) (he : PE X e ty) (hf : PE X f tx) (m : M2 X o "get" apos e f cpos) : PE X (.Call (.Attribute o "get" apos) [e, f] [] cpos) (tGet2T d kvs td ty tx) := by
  refine ⟨fun pins s σ H Q I h => ?_⟩
  refine wpAny_Call_method m.base m.few m.line PySem.F.plainAttrs_dict PySem.F.slot_dict_get PySem.F.type_dict_get (thn (ho.run pins s σ H _ I h) fun u s1 ⟨x, H1, I1, rx, ex, q1⟩ => ?_)
  subst ex
  obtain rfl : u = Value.ref d := rx
  obtain ⟨es, n, h1, h2, h3⟩ := D.ex
  have dd : ∀ {pins : List (Addr × Obj)} {σ : L2.St} {H : Hp} {s : Shared}, Inv X pins σ H s → _ := fun I => PySem.W.mapOf_K (prog := X.prog) (w := X.w) I.kIn h1 h3.lit
  refine ⟨(dd I1).typeIs, fun b q => ?_, ?_⟩
  · cases q
    obtain ⟨ob, _, _, hg, hx, _⟩ := id (dd I1)
    exact ⟨ob, hg, hx.2.1⟩
  rw [m.trees]
  refine Calls.callWith_builtin rfl (Calls.evalArgs_plain (Calls.spliced_cons (thn (he.run pins s1 σ H1 _ I1 q1) fun iv s2 ⟨y, H2, I2, ry, q2⟩ =>
    Calls.spliced_cons (thn (hf.run pins s2 σ H2 _ I2 q2) fun fv s3 ⟨v, H3, I3, rv, z, ez, q3⟩ => Calls.spliced_nil ?_))))
  subst ez
  obtain ⟨t, rfl⟩ := ry
  refine call_meetsIn PySem.F.slot_dict_get (dd I3).typeIs PySem.F.entry_dict_get (PySem.F.args_dict_get_3 _ _ _) (meets_dict_get_default (strKind X.prog X.w) d (strKind_is X.prog X.w z t) h2 fv) ⟨_, dd I3, ?_⟩
  have hn := D.ns z
  refine ⟨(valS kvs z).getD v, H3, I3.tok _, ?_, q3⟩
  cases e : valS kvs z with
  | none =>
    rw [e] at hn
    rw [PySem.W.find_K h1 hn]
    exact rv
  | some v0 =>
    rw [e] at hn
    obtain ⟨u0, hn, hr⟩ := hn
    rw [PySem.W.find_K h1 hn]
    exact hr
/-- a call of a local that holds one of several defs; each may let out what X.xe takes -/
def tCallT (i : Nat) (S : Addr → Sp → Prop) (E : XK) (t : TA) : TE := fun σ H Q => ∃ f sp, σ[i]? = some (some (.ref f)) ∧ S f sp ∧ t σ H fun vs H1 => sp vs H1 Q E
theorem pe_callT {S : Addr → Sp → Prop} {C : CXT} {E : XK} {k j : Nat} {i : Nat} {x : Str} {p pos : Pos} {es : List Expr} {t : TA} (A : ∀ f sp, S f sp → ∃ (y : Str), Cal X.prog X.w X.K X.mg X.base C k y sp ∧ X.mg y = some (.ref f)) (hr : Room j X.A) (hk : k ≤ j) (hN : X.N[i]? = some x) (hv : Vis X.env.scope x)
    (hx : Passes C X E) (ha : PA X (e :: es) t)
    (hdb : (x == ("__debug__" : Str)) = false := by decide) (hcd : (x == ("__classdict__" : Str)) = false := by decide)
    (he : starEach (e :: es) X.env = (false, eval e X.env) :: starEach es X.env := by rfl) (hpl : (backTo pos (starEach es X.env)).any (·.1) = false := by rfl) : PE X (.Call (.Name x p) (e :: es) [] pos) (tCallT i S E t) := by
  refine ⟨fun pins s σ H Q I h => ?_⟩
  obtain ⟨f, sp, hs, hS, ht⟩ := h
  obtain ⟨y, c, hy⟩ := A f sp hS
  obtain ⟨f', fd, ps, F, hm, kp, b⟩ := c.ex
  obtain rfl : f' = f := by rw [hm] at hy; cases hy; rfl
  refine (pe_callL (i := i) (f := f') (sp := sp) (dvs := []) (E := E) F (hr.mono hk) hN hv kp b .nil hx ha hdb hcd he hpl).run pins s σ H Q I ⟨hs, ?_⟩
  have e0 : (fun (vs : List V) (H1 : Hp) => sp (vs ++ []) H1 Q E) = fun vs H1 => sp vs H1 Q E := by
    funext vs H1
    rw [List.append_nil]
  rw [e0]
  exact ht
end

/-! ### a written dict of the module with int keys: what it holds, get, items -/
def RowsI : List DictEntry → List (Int × V) → Prop
  | [], [] => True
  | e :: r, (i, v) :: q => (∃ t, e.key = .int i t) ∧ e.hash = hashInt i ∧ RelV v e.val ∧ RowsI r q
  | _, _ => False
structure DicI (K : PySem.W.Frag) (a : Addr) (kvs : List (Int × V)) : Prop where
  ex : ∃ (es : Array DictEntry) (n : Nat), K.lookup a = some ⟨.type "dict", none, .dict es n, #[]⟩ ∧ (a == sysModules) = false ∧ RowsI es.toList kvs
  nd : (kvs.map (·.1)).Nodup
def keyed (kvs : List (Int × V)) : List (Key × V) := kvs.map fun p => (.inl p.1, p.2)
theorem RowsI.read {prog : Program} {w : World} : ∀ {l : List DictEntry} {q : List (Int × V)}, RowsI l q → ∃ vs : List (Key × Value), KV (keyed q) vs ∧ Pairs (mixKind prog w) l vs ∧ vs.map (·.1) = (keyed q).map (·.1) ∧ l.length = q.length ∧ ∀ e ∈ l, ∃ k, keyIs k e.key = true ∧ e.hash = keyH w k
  | [], [], _ => ⟨[], .nil, .nil, rfl, rfl, fun _ h => nomatch h⟩
  | [], _ :: _, h => nomatch h
  | _ :: _, [], h => nomatch h
  | e :: r, (i, v) :: q, ⟨⟨t, hk⟩, hh, hv, hr⟩ => by
    obtain ⟨vs, a, b, c, d, f⟩ := hr.read (prog := prog) (w := w)
    have ki : keyIs (.inl i) e.key = true := by rw [hk]; exact keyIs_int i t
    refine ⟨(.inl i, e.val) :: vs, .cons ⟨rfl, hv⟩ a, ?_, ?_, by rw [List.length_cons, List.length_cons, d], fun e' he => ?_⟩
    · exact .cons ki rfl b
    · show _ :: vs.map (·.1) = _ :: (keyed q).map (·.1)
      rw [c]
    · rcases List.mem_cons.mp he with rfl | he
      · exact ⟨_, ki, hh⟩
      · exact f e' he
def strsI (z : List (Int × Str)) : List (Int × V) := z.map fun p => (p.1, .str p.2)
def lookI (z : List (Int × Str)) (c : Int) : Option Str := (z.find? fun p => decide (p.1 = c)).map (·.2)
def optS : Option Str → V
  | none => .non
  | some z => .str z
theorem valV_strs (c : Int) : ∀ z : List (Int × Str), (valV (keyed (strsI z)) (.inl c)).getD .non = optS (lookI z c)
  | [] => rfl
  | (k, x) :: r => by
    have ih := valV_strs c r
    show (((((.inl k : Key), V.str x) :: keyed (strsI r)).find? fun kv => decide (kv.1 = .inl c)).map (·.2)).getD .non = optS ((((k, x) :: r).find? fun p => decide (p.1 = c)).map (·.2))
    rw [List.find?_cons, List.find?_cons]
    by_cases e : k = c
    · rw [decide_eq_true (congrArg Sum.inl e), decide_eq_true e]; rfl
    · rw [decide_eq_false (fun h => e (Sum.inl.inj h)), decide_eq_false e]; exact ih
section
variable {X : Cx} {pins : List (Addr × Obj)} {σ : L2.St} {H : Hp} {s : Shared} {d : Addr} {kvs : List (Int × V)}
theorem DicI.facts (D : DicI X.K d kvs) (I : Inv X pins σ H s) : ∃ (ob : Obj) (es : Array DictEntry) (n : Nat) (vs : List (Key × Value)), X.K.lookup d = some ob ∧ s.heap.get? d = some ob ∧ ob.data = .dict es n ∧ es.size = kvs.length ∧ KV (keyed kvs) vs ∧ (d == sysModules) = false ∧ s.heap.DictAt (mixKind X.prog X.w) d vs n := by
  obtain ⟨es, n, hl, hs, hr⟩ := D.ex
  obtain ⟨vs, a, b, c, e, f⟩ := hr.read (prog := X.prog) (w := X.w)
  have hg := I.kIn d _ hl
  refine ⟨_, es, n, vs, hl, hg, rfl, by rw [← e, Array.length_toList], a, hs, _, es, hg, ⟨rfl, rfl, rfl⟩, rfl, fun z hz => f z (Array.mem_toList_iff.mpr hz), b, ?_⟩
  rw [c]
  show ((kvs.map fun p => ((.inl p.1 : Key), p.2)).map (·.1)).Nodup
  rw [List.map_map]
  exact List.pairwise_map.mpr ((List.pairwise_map.mp D.nd).imp fun ne z => ne (Sum.inl.inj z))
/-- the pairs of a written dict, each a new tuple -/
def ItW (kvs : List (Int × V)) : It :=
  ⟨fun i _ => i < kvs.length, fun i H x H' => ∃ T k v, kvs[i]? = some (k, v) ∧ x = .ref T ∧ H T = none ∧ H' = upd H T (.tup [.int k, v]), fun i _ => kvs.length ≤ i⟩
theorem keyed_at {i k : Nat} {m : Int} {v : V} (h : kvs[i]? = some (m, v)) : (keyed kvs)[i]? = some (.inl m, v) := by
  unfold keyed
  rw [List.getElem?_map, h]; rfl
theorem turnW {P : Program} {w : World} {K : PySem.W.Frag} {elts : List Expr} {kk : Nat} {tpos : Pos} {ob : Obj} {es : Array DictEntry} {n : Nat} (it : Addr) (D : DicI K d kvs) (hl : K.lookup d = some ob) (hod : ob.data = .dict es n) :
    Turn P w K (.Tuple elts kk tpos) (ItW kvs) [it] it (fun i h => ∃ a b, IsItemIter h it d i kvs.length n a b) where
  mem := List.mem_singleton.mpr rfl
  obj := by
    rintro i h ⟨a, b, e⟩ c hc
    rw [List.mem_singleton.mp hc]
    exact ⟨_, e, fun v z => nomatch z⟩
  keep := by
    rintro i h h' ⟨a, b, e⟩ k
    exact ⟨a, b, k it (List.mem_singleton.mpr rfl) _ e⟩
  item := by
    intro X e1 e2 e3 calm i pins s σ H E I free st lt
    subst e1 e2 e3
    obtain ⟨a, b, st⟩ := st
    obtain ⟨ob', es', n', vs, l', g', d', z', kv, hs, at'⟩ := D.facts I
    rw [hl] at l'
    cases l'
    rw [hod] at d'
    cases d'
    have lv : kvs.length = vs.length := by
      have q : (keyed kvs).length = vs.length := Paired.length kv
      unfold keyed at q
      rw [List.length_map] at q
      exact q
    obtain ⟨⟨m, v⟩, hm⟩ : ∃ p, kvs[i]? = some p := ⟨kvs[i], List.getElem?_eq_getElem lt⟩
    obtain ⟨u, hu, ru⟩ := kv_get kv (keyed_at (k := 0) hm)
    rw [lv] at st
    have small : it < s.heap.objs.size := Heap.lt_size st
    refine wpAny_pyNext_items_item st at' hu fun key h1 hk out tup size old => ⟨_, rfl, wpAny_letOwnedTupleGo_items (s := { s with heap := h1 }) out fun h2 next but => ?_⟩
    have tup2 := (but.2 _ (Nat.ne_of_gt small)).trans tup
    have rk : RelV (V.int m) key := relV_key (k := .inl m) hk
    have new : ObjOk X.prog X.w (upd H s.heap.objs.size (.tup [.int m, v])) h2 s.heap.objs.size (.tup [.int m, v]) := ⟨by show 2 ≤ sizeLine; decide, [key, u], .cons rk (.cons ru .nil), ⟨_, tup2, rfl, _, rfl⟩⟩
    have I2 : Inv X pins σ (upd H s.heap.objs.size (.tup [.int m, v])) { s with heap := h2 } :=
      I.turnedNew (t' := s.toks) (ch := [it]) (fun c oc nc ec => (but.2 c (fun z => nc (List.mem_singleton.mpr z))).trans (old c oc (fun z => nc (List.mem_singleton.mpr z)) ec)) free (Nat.le_refl _) new
    refine ⟨.ref s.heap.objs.size, _, I2, rfl, ⟨_, m, v, hm, rfl, I.hok.fresh (Nat.le_refl _), rfl⟩, ⟨key, u, ?_⟩, fun c hc => ?_⟩
    · rw [lv]; exact next
    · rw [List.mem_singleton.mp hc, upd_ne (Nat.ne_of_lt small)]
      exact (free it (List.mem_singleton.mpr rfl)).1
  done := by
    intro X e1 e2 e3 calm i pins s σ H E I free st le
    subst e1 e2 e3
    obtain ⟨a, b, st⟩ := st
    obtain ⟨ob', es', n', vs, l', g', d', z', kv, hs, at'⟩ := D.facts I
    rw [hl] at l'
    cases l'
    rw [hod] at d'
    cases d'
    have lv : kvs.length = vs.length := by
      have q : (keyed kvs).length = vs.length := Paired.length kv
      unfold keyed at q
      rw [List.length_map] at q
      exact q
    rw [lv] at st
    obtain ⟨f0, f1, f2, f3, f4, f5⟩ := free it (List.mem_singleton.mpr rfl)
    have le' : vs.length ≤ i := lv ▸ le
    exact wpAny_pyNext_items_end (I.ok.hd calm) st at' (List.getElem?_eq_none le') fun h1 but => ⟨rfl, I.turned (t' := s.toks) (fun c oc nc ec => but c oc nc ec) f0 f1 f3 f4 f5⟩
  self := by
    rintro A i s Q E ⟨a, b, e⟩ h
    exact PySem.W.kcp_self e h
/-- for k, v in D.items(), D a written dict -/
def iItemsW (d : Addr) (kvs : List (Int × V)) (td : TE) : TI := fun σ H R => td σ H fun x H1 => x = .ref d ∧ R (ItW kvs) H1
theorem pi_itemsW {elts : List Expr} {kk : Nat} {tpos : Pos} {e : Expr} {td : TE} {apos cpos : Pos} (D : DicI X.K d kvs) (he : PE X e td) (hbase : attributeBase e "items" X.env (eval e X.env) = eval e X.env := by rfl) (hline : (apos.endLine == cpos.line) = true := by rfl) :
    PI X (.Tuple elts kk tpos) (.Call (.Attribute e "items" apos) [] [] cpos) (iItemsW d kvs td) := by
  refine ⟨fun pins s σ H R I h => wpAny_Call_method (T := "dict") (id := "dict.items") hbase rfl hline F.plainAttrs_dict F.slot_dict_items F.type_dict_items (thn (he.run pins s σ H _ I h) fun u s1 ⟨x, H1, I1, rx, ex, q⟩ => ?_)⟩
  subst ex
  obtain rfl : u = Value.ref d := rx
  obtain ⟨ob, es, n, vs, hl, hg, hod, hsz, kv, hs, hm⟩ := D.facts I1
  have lv : kvs.length = vs.length := by
    have q : (keyed kvs).length = vs.length := Paired.length kv
    unfold keyed at q
    rw [List.length_map] at q
    exact q
  refine ⟨hm.dictOf.typeIs, hm.dictOf.mapOf.noDict, ?_⟩
  have I2 : Inv X pins σ H1 { s1 with heap := s1.heap.push { cls := .type "dict_items", data := .fields #[.ref d] } } := I1.kept (t' := s1.toks) fun b ob q => Heap.get?_push_of_some _ q
  have fin : wpAny (model X.prog X.w) X.A (pyIter (.ref s1.heap.objs.size)) (PIE X pins σ (.Tuple elts kk tpos) R) X.xe { s1 with heap := s1.heap.push { cls := .type "dict_items", data := .fields #[.ref d] } } := by
    refine wpAny_pyIter_items (d := d) (knd := mixKind X.prog X.w) ⟨_, Heap.get?_push_size _ rfl, rfl, rfl⟩ (hm.push _) (pi_one (tk := s1.toks) I2 _ (turnW _ D hl hod) ⟨.none, .none, ?_⟩ q)
    rw [lv]
    exact Heap.get?_push_size _ rfl
  exact method_meetsIn F.slot_dict_items F.entry_dict_items rfl (PySem.evalArgs_none ⟨rfl, hm.dictOf.typeIs, F.args_dict_items_1 _, _, meets_dict_items (mixKind X.prog X.w) d hs, ⟨vs, hm.dictOf⟩, fin⟩)
/-- D.get(i), D a written dict -/
def tGet1W (d : Addr) (kvs : List (Int × V)) (td ty : TE) : TE := fun σ H Q => td σ H fun x H1 => x = .ref d ∧ ty σ H1 fun y H2 => ∃ i : Int, y = .int i ∧ Q ((valV (keyed kvs) (.inl i)).getD .non) H2
theorem pe_get1W {o e : Expr} {apos cpos : Pos} {td ty : TE} (D : DicI X.K d kvs) (ho : PE X o td) (he : PE X e ty) (m : M1 X o "get" apos e cpos) : PE X (.Call (.Attribute o "get" apos) [e] [] cpos) (tGet1W d kvs td ty) := by
  refine ⟨fun pins s σ H Q I h => wpAny_Call_method m.base m.few m.line PySem.F.plainAttrs_dict PySem.F.slot_dict_get PySem.F.type_dict_get (thn (ho.run pins s σ H _ I h) fun u s1 ⟨x, H1, I1, rx, ex, q1⟩ => ?_)⟩
  subst ex
  obtain rfl : u = Value.ref d := rx
  obtain ⟨ob, es, n, vs, hl, hg, hod, hsz, kv, hs, hm⟩ := D.facts I1
  refine ⟨hm.dictOf.typeIs, hm.dictOf.mapOf.noDict, ?_⟩
  rw [m.trees]
  refine Calls.callWith_builtin rfl (Calls.evalArgs_plain (Calls.spliced_cons (thn (he.run pins s1 σ H1 _ I1 q1) fun iv s2 ⟨y, H2, I2, ry, i, ey, q2⟩ => Calls.spliced_nil ?_)))
  subst ey
  obtain ⟨t, rfl⟩ := ry
  obtain ⟨ob, es, n, vs, hl, hg, hod, hsz, kv, hs, hm⟩ := D.facts I2
  exact call_meetsIn PySem.F.slot_dict_get hm.dictOf.typeIs PySem.F.entry_dict_get (PySem.F.args_dict_get_2 _ _) (meets_dict_get (mixKind X.prog X.w) (k := (.inl i : Key)) d (keyIs_int i t) hs) ⟨_, hm.dictOf.mapOf, ⟨(valV (keyed kvs) (.inl i)).getD .non, H2, I2.tok _, (kv.val (.inl i)).getD (show RelV .non Value.none from rfl), q2⟩⟩
end
/-- a name that the module binds to an int -/
theorem pe_gint {X : Cx} {x : Str} {p : Pos} {i : Int} (hg : Gl X x) (hm : ∃ t, X.mg x = some (.int i t)) (hdb : (x == ("__debug__" : Str)) = false := by decide) : PE X (.Name x p) (tC (.int i)) := by
  obtain ⟨t, h⟩ := hm
  exact pe_glob hg h ⟨t, rfl⟩ hdb

theorem for_itemsW {kvs : List (Int × V)} {g : TG} {tb : TS} {nx : L2.St → Hp → Prop} {rt : VK} {σ : L2.St} {H : Hp} (Pv : Nat → L2.St → Hp → Prop) (h0 : Pv 0 σ H)
    (hs : ∀ (i : Nat) (k : Int) (v : V) (T : Addr) (σ : L2.St) (H : Hp), kvs[i]? = some (k, v) → Pv i σ H → H T = none → g (.ref T) σ (upd H T (.tup [.int k, v])) fun σ2 H2 => tb { nx := Pv (i + 1), rt := rt, bk := nx, ct := Pv (i + 1) } σ2 H2) (hd : ∀ σ H, Pv kvs.length σ H → nx σ H) :
    ∃ W : Nat → Nat → L2.St → Hp → Prop, (∃ m, W 0 m σ H) ∧ ∀ i m σ H, W i m σ H → ((ItW kvs).stop i H ∧ nx σ H) ∨ ((ItW kvs).go i H ∧ ∃ N : L2.St → Hp → Prop, (∀ σ' H', N σ' H' → ∃ m', m' < m ∧ W (i + 1) m' σ' H') ∧
      ∀ x H', (ItW kvs).yld i H x H' → g x σ H' fun σ2 H2 => tb { nx := N, rt := rt, bk := nx, ct := N } σ2 H2) := by
  refine ⟨fun i m σ H => m = kvs.length - i ∧ i ≤ kvs.length ∧ Pv i σ H, ⟨_, rfl, Nat.zero_le _, h0⟩, ?_⟩
  rintro i m σ H ⟨rfl, hi, p⟩
  by_cases lt : i < kvs.length
  · refine .inr ⟨lt, Pv (i + 1), fun σ' H' p' => ⟨kvs.length - (i + 1), by omega, rfl, lt, p'⟩, ?_⟩
    rintro x H' ⟨T, k, v, hk, rfl, hT, rfl⟩
    exact hs i k v T σ H hk p hT
  · have e : i = kvs.length := by omega
    subst e
    exact .inl ⟨Nat.le_refl _, hd σ H p⟩
theorem strsI_at {z : List (Int × Str)} {i : Nat} {k : Int} {v : V} (h : (strsI z)[i]? = some (k, v)) : ∃ x, z[i]? = some (k, x) ∧ v = .str x := by
  unfold strsI at h
  rw [List.getElem?_map] at h
  cases e : z[i]? with
  | none => rw [e] at h; cases h
  | some p => rw [e] at h; cases h; exact ⟨_, rfl, rfl⟩
/-- the code of a name, by its place in a table -/
def codeI (z : List (Int × Str)) (n : Str) : Option Int := (z.find? fun p => decide (p.2 = n)).map (·.1)
theorem codeI_hit {z : List (Int × Str)} {n : Str} {i : Nat} {k : Int} (h : z[i]? = some (k, n)) (no : ∀ p ∈ z.take i, ¬ p.2 = n) : codeI z n = some k := by
  unfold codeI
  have e : z = z.take i ++ (k, n) :: z.drop (i + 1) := by
    have hi := (List.getElem?_eq_some_iff.mp h)
    obtain ⟨hi, he⟩ := hi
    rw [← he, List.getElem_cons_drop, List.take_append_drop]
  rw [e, List.find?_append, List.find?_eq_none.mpr (fun p hp => by simpa using no p hp)]
  simp
theorem codeI_none {z : List (Int × Str)} {n : Str} (no : ∀ p ∈ z, ¬ p.2 = n) : codeI z n = none := by
  unfold codeI
  rw [List.find?_eq_none.mpr (fun p hp => by simpa using no p hp)]; rfl

/-! ### trees of tuples: what stands in them stays -/
/-- every tuple stays -/
def Ti (K : PySem.W.Frag) (H H' : Hp) : Prop := ∀ a xs, SqT K H a xs → SqT K H' a xs
theorem Ti.refl {K : PySem.W.Frag} (H : Hp) : Ti K H H := fun _ _ h => h
theorem Ti.trans {K : PySem.W.Frag} {H H1 H2 : Hp} (a : Ti K H H1) (b : Ti K H1 H2) : Ti K H H2 := fun _ _ h => b _ _ (a _ _ h)
theorem Same.ti {K : PySem.W.Frag} {H H' : Hp} (e : Same H H') : Ti K H H' := fun a xs h => by
  rcases h with (h | ⟨o, h⟩) | h
  · exact .inl (.inl (e _ _ h))
  · exact .inl (.inr ⟨o, e _ _ h⟩)
  · exact .inr h
/-- a thing that is no tuple is put in another's place -/
theorem Ti.put {K : PySem.W.Frag} {H : Hp} {l : Addr} {o o' : HO} (h : H l = some o) (n1 : ∀ xs, o ≠ .tup xs) (n2 : ∀ b xs, o ≠ .frz b (.tup xs)) : Ti K H (upd H l o') := fun a xs q => by
  rcases q with (q | ⟨b, q⟩) | q
  · have : a ≠ l := fun z => by subst z; rw [h] at q; cases q; exact n1 _ rfl
    exact .inl (.inl ((upd_ne this).trans q))
  · have : a ≠ l := fun z => by subst z; rw [h] at q; cases q; exact n2 _ _ rfl
    exact .inl (.inr ⟨b, (upd_ne this).trans q⟩)
  · exact .inr q
theorem Ti.putL {K : PySem.W.Frag} {H : Hp} {l : Addr} {xs : List V} {o' : HO} (h : H l = some (.lst xs)) : Ti K H (upd H l o') := Ti.put h (fun _ z => nomatch z) (fun _ _ z => nomatch z)
theorem Ti.new {K : PySem.W.Frag} {H : Hp} {p : Addr} {o : HO} (h : H p = none) : Ti K H (upd H p o) := Same.ti (Same.new h)
mutual
inductive Dt (K : PySem.W.Frag) (H : Hp) : V → PyData → Prop
  | non : Dt K H .non .none
  | bl (b : Bool) : Dt K H (.bl b) (.bool b)
  | int (i : Int) : Dt K H (.int i) (.int i)
  | str (x : Str) : Dt K H (.str x) (.str x)
  | tup {a : Addr} {xs : List V} {ds : List PyData} : SqT K H a xs → DtA K H xs ds → Dt K H (.ref a) (.tuple ds)
inductive DtA (K : PySem.W.Frag) (H : Hp) : List V → List PyData → Prop
  | nil : DtA K H [] []
  | cons {v : V} {vs : List V} {d : PyData} {ds : List PyData} : Dt K H v d → DtA K H vs ds → DtA K H (v :: vs) (d :: ds)
end
section
variable {K : PySem.W.Frag} {H H' : Hp}
mutual
theorem Dt.ti (e : Ti K H H') : ∀ {v : V} {d : PyData}, Dt K H v d → Dt K H' v d
  | _, _, .non => .non
  | _, _, .bl b => .bl b
  | _, _, .int i => .int i
  | _, _, .str x => .str x
  | _, _, .tup h a => .tup (e _ _ h) (DtA.ti e a)
theorem DtA.ti (e : Ti K H H') : ∀ {vs : List V} {ds : List PyData}, DtA K H vs ds → DtA K H' vs ds
  | _, _, .nil => .nil
  | _, _, .cons h a => .cons (Dt.ti e h) (DtA.ti e a)
end
mutual
theorem Dt.dp : ∀ {v : V} {d : PyData}, Dt K H v d → Dp K H v d
  | _, _, .non => .non
  | _, _, .bl b => .bl b
  | _, _, .int i => .int i
  | _, _, .str x => .str x
  | _, _, .tup h a => .tup h (DtA.dp a)
theorem DtA.dp : ∀ {vs : List V} {ds : List PyData}, DtA K H vs ds → DpAll K H vs ds
  | _, _, .nil => .nil
  | _, _, .cons h a => .cons (Dt.dp h) (DtA.dp a)
end
theorem Dt.same {v : V} {d : PyData} (e : Same H H') (h : Dt K H v d) : Dt K H' v d := h.ti (Same.ti e)
theorem DtA.same {vs : List V} {ds : List PyData} (e : Same H H') (h : DtA K H vs ds) : DtA K H' vs ds := h.ti (Same.ti e)
theorem DtA.len : ∀ {vs : List V} {ds : List PyData}, DtA K H vs ds → vs.length = ds.length
  | _, _, .nil => rfl
  | _, _, .cons _ a => congrArg (· + 1) (DtA.len a)
theorem DtA.get : ∀ {vs : List V} {ds : List PyData} {k : Nat} {d : PyData}, DtA K H vs ds → ds[k]? = some d → ∃ v, vs[k]? = some v ∧ Dt K H v d
  | _, _, k, _, .nil, h => by cases k <;> cases h
  | _, _, 0, _, .cons h _, e => ⟨_, rfl, by cases e; exact h⟩
  | _, _, k + 1, d, .cons _ a, e => DtA.get (k := k) (d := d) a e
theorem DtA.geti : ∀ {vs : List V} {ds : List PyData} {k : Nat} {v : V}, DtA K H vs ds → vs[k]? = some v → ∃ d, ds[k]? = some d ∧ Dt K H v d
  | _, _, k, _, .nil, h => by cases k <;> cases h
  | _, _, 0, _, .cons h _, e => ⟨_, rfl, by cases e; exact h⟩
  | _, _, k + 1, v, .cons _ a, e => DtA.geti (k := k) (v := v) a e
theorem DtA.app : ∀ {vs ws : List V} {ds es : List PyData}, DtA K H vs ds → DtA K H ws es → DtA K H (vs ++ ws) (ds ++ es)
  | _, _, _, _, .nil, b => b
  | _, _, _, _, .cons h a, b => .cons h (DtA.app a b)
theorem DtA.snoc {vs : List V} {v : V} {ds : List PyData} {d : PyData} (a : DtA K H vs ds) (h : Dt K H v d) : DtA K H (vs ++ [v]) (ds ++ [d]) := a.app (.cons h .nil)
theorem DtA.drop : ∀ {vs : List V} {ds : List PyData} (k : Nat), DtA K H vs ds → DtA K H (vs.drop k) (ds.drop k)
  | _, _, 0, a => a
  | _, _, _ + 1, .nil => .nil
  | _, _, k + 1, .cons _ a => DtA.drop k a
theorem DtA.take : ∀ {vs : List V} {ds : List PyData} (k : Nat), DtA K H vs ds → DtA K H (vs.take k) (ds.take k)
  | _, _, 0, _ => .nil
  | _, _, _ + 1, .nil => .nil
  | _, _, k + 1, .cons h a => .cons h (DtA.take k a)
theorem DtA.ints : ∀ ns : List Int, DtA K H (ns.map V.int) (ns.map PyData.int)
  | [] => .nil
  | n :: r => .cons (.int n) (DtA.ints r)
theorem DtA.strs : ∀ zs : List Str, DtA K H (zs.map V.str) (zs.map PyData.str)
  | [] => .nil
  | z :: r => .cons (.str z) (DtA.strs r)
theorem Dt.vint {v : V} {i : Int} (h : Dt K H v (.int i)) : v = .int i := by cases h; rfl
theorem Dt.vstr {v : V} {z : Str} (h : Dt K H v (.str z)) : v = .str z := by cases h; rfl
theorem Dt.vbl {v : V} {b : Bool} (h : Dt K H v (.bool b)) : v = .bl b := by cases h; rfl
theorem Dt.vnon {v : V} (h : Dt K H v .none) : v = .non := by cases h; rfl
theorem DtA.vints : ∀ {vs : List V} {ns : List Int}, DtA K H vs (ns.map PyData.int) → vs = ns.map V.int
  | _, [], .nil => rfl
  | _, n :: r, .cons h a => by rw [h.vint, DtA.vints a]; rfl
theorem Dt.vtup {v : V} {ds : List PyData} (h : Dt K H v (.tuple ds)) : ∃ a xs, v = .ref a ∧ SqT K H a xs ∧ DtA K H xs ds := by
  cases h with
  | tup h a => exact ⟨_, _, rfl, h, a⟩
theorem Dt.two {v : V} {d e : PyData} (h : Dt K H v (.tuple [d, e])) : ∃ a x y, v = .ref a ∧ SqT K H a [x, y] ∧ Dt K H x d ∧ Dt K H y e := by
  obtain ⟨a, xs, rfl, hs, ha⟩ := h.vtup
  cases ha with
  | cons h1 ha =>
  cases ha with
  | cons h2 ha =>
  cases ha
  exact ⟨a, _, _, rfl, hs, h1, h2⟩
theorem Dt.three {v : V} {d e g : PyData} (h : Dt K H v (.tuple [d, e, g])) : ∃ a x y z, v = .ref a ∧ SqT K H a [x, y, z] ∧ Dt K H x d ∧ Dt K H y e ∧ Dt K H z g := by
  obtain ⟨a, xs, rfl, hs, ha⟩ := h.vtup
  cases ha with
  | cons h1 ha =>
  cases ha with
  | cons h2 ha =>
  cases ha with
  | cons h3 ha =>
  cases ha
  exact ⟨a, _, _, _, rfl, hs, h1, h2, h3⟩
theorem Dt.four {v : V} {d e g i : PyData} (h : Dt K H v (.tuple [d, e, g, i])) : ∃ a x y z u, v = .ref a ∧ SqT K H a [x, y, z, u] ∧ Dt K H x d ∧ Dt K H y e ∧ Dt K H z g ∧ Dt K H u i := by
  obtain ⟨a, xs, rfl, hs, ha⟩ := h.vtup
  cases ha with
  | cons h1 ha =>
  cases ha with
  | cons h2 ha =>
  cases ha with
  | cons h3 ha =>
  cases ha with
  | cons h4 ha =>
  cases ha
  exact ⟨a, _, _, _, _, rfl, hs, h1, h2, h3, h4⟩
theorem newT {xs : List V} {ds : List PyData} {p : Addr} {H' : Hp} (hp : H p = none) (e : upd H p (.tup xs) = H') (a : DtA K H xs ds) : Same H H' ∧ Dt K H' (.ref p) (.tuple ds) := by
  subst e; exact ⟨Same.new hp, .tup (SqT.of upd_same) (a.same (Same.new hp))⟩
/-! readings over such trees -/
theorem ix_D {Q : VK} {x : V} {ds : List PyData} {k : Nat} {d : PyData} (h : Dt K H x (.tuple ds)) (e : ds[k]? = some d) (q : ∀ v, Dt K H v d → Q v H) : L2.rIxT K x (.int (k : Int)) H Q := by
  obtain ⟨a, xs, rfl, hs, ha⟩ := h.vtup
  obtain ⟨v, ev, hv⟩ := ha.get e
  exact ⟨_, _, _, _, rfl, rfl, hs, atI_nat ev, q v hv⟩
theorem ix_Dl {Q : VK} {a : Addr} {xs : List V} {ds : List PyData} {k : Nat} {d : PyData} (hs : SqL K H a xs) (h : DtA K H xs ds) (e : ds[k]? = some d) (q : ∀ v, Dt K H v d → Q v H) : rIxL K (.ref a) (.int (k : Int)) H Q := by
  obtain ⟨v, ev, hv⟩ := h.get e
  exact ⟨_, _, _, _, rfl, rfl, hs, atI_nat ev, q v hv⟩
theorem tup_D {Q : VK} {xs : List V} {ds : List PyData} (h : DtA K H xs ds) (hl : xs.length ≤ 1000000) (q : ∀ p H', Same H H' → Dt K H' (.ref p) (.tuple ds) → Q (.ref p) H') : xs.length ≤ sizeLine ∧ ∀ p, H p = none → Q (.ref p) (upd H p (.tup xs)) :=
  ⟨small64 hl, fun p hp => q p _ (Same.new hp) (.tup (SqT.of upd_same) (h.same (Same.new hp)))⟩
theorem eq_D {Q : VK} {x y : V} {d e : PyData} (h1 : Dt K H x d) (h2 : Dt K H y e) (s1 : SeqAt.shaped d = true) (s2 : SeqAt.shaped e = true) (q : Q (.bl (PyData.eqv d e)) H) : rEqD K x y H Q := ⟨_, _, h1.dp, h2.dp, s1, s2, q⟩
theorem ne_D {Q : VK} {x y : V} {d e : PyData} (h1 : Dt K H x d) (h2 : Dt K H y e) (s1 : SeqAt.shaped d = true) (s2 : SeqAt.shaped e = true) (q : Q (.bl (!PyData.eqv d e)) H) : rNeD K x y H Q := ⟨_, _, h1.dp, h2.dp, s1, s2, q⟩
theorem cat_D {Q : VK} {x y : V} {ds es : List PyData} (h1 : Dt K H x (.tuple ds)) (h2 : Dt K H y (.tuple es)) (n : ds ≠ []) (hl : ds.length + es.length ≤ 1000000) (q : ∀ p H', Same H H' → Dt K H' (.ref p) (.tuple (ds ++ es)) → Q (.ref p) H') : rCatT K x y H Q := by
  obtain ⟨a, xs, rfl, hs, ha⟩ := h1.vtup
  obtain ⟨b, ys, rfl, ht, hb⟩ := h2.vtup
  have l1 := ha.len
  have l2 := hb.len
  have hn : xs ≠ [] := fun z => by subst z; cases ds with
    | nil => exact n rfl
    | cons _ _ => cases l1
  refine ⟨a, b, xs, ys, rfl, rfl, hs, ht, hn, small64 (by omega), fun e => ?_, fun _ p hp => q p _ (Same.new hp) (.tup (SqT.of upd_same) ((ha.app hb).same (Same.new hp)))⟩
  subst e
  have e2 : es = [] := by cases es with
    | nil => rfl
    | cons _ _ => cases l2
  subst e2
  exact q a H (Same.refl H) (by rw [List.append_nil]; exact .tup hs ha)
theorem sl_fromD {Q : VK} {x : V} {ds : List PyData} {k : Nat} (h : Dt K H x (.tuple ds)) (hk : 0 < k) (hd : 0 < ds.length) (q : ∀ p H', Same H H' → Dt K H' (.ref p) (.tuple (ds.drop k)) → Q (.ref p) H') : rSlT K x (some (k : Int)) none H Q := by
  obtain ⟨a, xs, rfl, hs, ha⟩ := h.vtup
  have l := ha.len
  refine ⟨a, xs, rfl, hs, fun z => ?_, fun p hp => ?_⟩
  · have := z.1
    rw [HT.sIx_nat] at this
    omega
  · rw [cut_from]
    exact q p _ (Same.new hp) (.tup (SqT.of upd_same) ((ha.drop k).same (Same.new hp)))
theorem sl_toD {Q : VK} {x : V} {ds : List PyData} {k : Nat} (h : Dt K H x (.tuple ds)) (hk : k < ds.length) (q : ∀ p H', Same H H' → Dt K H' (.ref p) (.tuple (ds.take k)) → Q (.ref p) H') : rSlT K x none (some (k : Int)) H Q := by
  obtain ⟨a, xs, rfl, hs, ha⟩ := h.vtup
  have l := ha.len
  refine ⟨a, xs, rfl, hs, fun z => ?_, fun p hp => ?_⟩
  · have := z.2
    rw [HT.sIx_nat] at this
    omega
  · rw [cut_to]
    exact q p _ (Same.new hp) (.tup (SqT.of upd_same) ((ha.take k).same (Same.new hp)))
end

/-! ### the text by places -/
def top (i : Nat) : Stmt := PySem.Challenge.pw_wasmhost_k38_memory_instructions.main.body.getD i (.Pass ⟨0, 0, 0, 0⟩)
abbrev s_imported_items : Stmt := top 4
abbrev s_function_signatures : Stmt := top 5
abbrev s_table_limits : Stmt := top 6
abbrev s_memory_limits : Stmt := top 7
abbrev s_global_heads : Stmt := top 8
abbrev s_tag_signatures : Stmt := top 9
abbrev s_all_items : Stmt := top 11
abbrev s_count_items : Stmt := top 12
abbrev s_shape_kinds : Stmt := top 16
abbrev s_bodies_of : Stmt := top 17
abbrev s_local_get : Stmt := top 42
abbrev s_local_set : Stmt := top 43
abbrev s_local_tee : Stmt := top 44
abbrev s_global_get : Stmt := top 45
abbrev s_global_set : Stmt := top 46
abbrev s_br : Stmt := top 47
abbrev s_br_if : Stmt := top 48
abbrev s_return_effect : Stmt := top 49
abbrev s_call : Stmt := top 50
abbrev s_call_indirect : Stmt := top 51
abbrev s_throw : Stmt := top 52
abbrev s_access_effect : Stmt := top 54
abbrev s_effect_of : Stmt := top 55
abbrev s_agree : Stmt := top 58
abbrev s_walk_through : Stmt := top 64
abbrev s_signature_reason : Stmt := top 69
abbrev s_tag_reason : Stmt := top 70
abbrev s_table_reason : Stmt := top 71
abbrev s_memory_reason : Stmt := top 72
abbrev s_import_reason : Stmt := top 73
abbrev s_function_reason : Stmt := top 74
abbrev s_constant_reason : Stmt := top 75
abbrev s_global_reason : Stmt := top 76
abbrev s_start_reason : Stmt := top 77
abbrev s_table_segment_reason : Stmt := top 78
abbrev s_memory_segment_reason : Stmt := top 79
abbrev s_first_fault : Stmt := top 80
abbrev s_memory_count_fault : Stmt := top 81
abbrev s_export_fault : Stmt := top 82
abbrev s_start_fault : Stmt := top 83
abbrev s_code_fault : Stmt := top 84
abbrev s_check : Stmt := top 85
abbrev s__law_state : Stmt := top 89
abbrev s__law_draw : Stmt := top 90
abbrev s__law_access : Stmt := top 91
abbrev s__law_case : Stmt := top 92
abbrev s_law : Stmt := top 93
abbrev s_Module___init__ : Stmt := inClass (top 87) 0
abbrev s_Scope___init__ : Stmt := inClass (top 20) 0
abbrev s_Scope_slot : Stmt := inClass (top 20) 1
abbrev s_Scope_variable : Stmt := inClass (top 20) 2
abbrev s_Scope_signature : Stmt := inClass (top 20) 3
abbrev s_Scope_function : Stmt := inClass (top 20) 4
abbrev s_Scope_tag : Stmt := inClass (top 20) 5
abbrev s_Scope_label : Stmt := inClass (top 20) 6
abbrev s_Scope_shape : Stmt := inClass (top 20) 7
abbrev s_Scope_need_table : Stmt := inClass (top 20) 8
abbrev s_Scope_need_memory : Stmt := inClass (top 20) 9
abbrev s_Level___init__ : Stmt := inClass (top 57) 0
abbrev s_KindStack___init__ : Stmt := inClass (top 59) 0
abbrev s_KindStack_is_dead : Stmt := inClass (top 59) 1
abbrev s_KindStack_shown : Stmt := inClass (top 59) 2
abbrev s_KindStack_put : Stmt := inClass (top 59) 3
abbrev s_KindStack_need : Stmt := inClass (top 59) 4
abbrev s_KindStack_take : Stmt := inClass (top 59) 5
abbrev s_KindStack_take_any : Stmt := inClass (top 59) 6
abbrev s_KindStack_loosen : Stmt := inClass (top 59) 7
abbrev s_KindStack_enter : Stmt := inClass (top 59) 8
abbrev s_KindStack_leave : Stmt := inClass (top 59) 9
abbrev s_Walker___init__ : Stmt := inClass (top 62) 0
abbrev s_Walker_walk : Stmt := inClass (top 62) 1
abbrev s_Walker_mark : Stmt := inClass (top 62) 2
abbrev s_Walker_walk_body : Stmt := inClass (top 62) 3
abbrev s_Walker_walk_instruction : Stmt := inClass (top 62) 4
abbrev s_Walker_choose : Stmt := inClass (top 62) 5
abbrev s_Walker_branch_by_table : Stmt := inClass (top 62) 6
abbrev s_Walker_check_catch : Stmt := inClass (top 62) 7
abbrev s_Walker_walk_block : Stmt := inClass (top 62) 8
theorem sc_imported_items : FnScope ["module", "kind", "row"] ["module", "kind"] (defScope s_imported_items) := ⟨rfl, rfl, rfl, by decide +kernel, rfl, by decide +kernel, by decide +kernel⟩
theorem sc_function_signatures : FnScope ["module", "function"] ["module"] (defScope s_function_signatures) := ⟨rfl, rfl, rfl, by decide +kernel, rfl, by decide +kernel, by decide +kernel⟩
theorem sc_table_limits : FnScope ["module"] ["module"] (defScope s_table_limits) := ⟨rfl, rfl, rfl, by decide +kernel, rfl, by decide +kernel, by decide +kernel⟩
theorem sc_memory_limits : FnScope ["module"] ["module"] (defScope s_memory_limits) := ⟨rfl, rfl, rfl, by decide +kernel, rfl, by decide +kernel, by decide +kernel⟩
theorem sc_global_heads : FnScope ["module", "variable"] ["module"] (defScope s_global_heads) := ⟨rfl, rfl, rfl, by decide +kernel, rfl, by decide +kernel, by decide +kernel⟩
theorem sc_tag_signatures : FnScope ["module"] ["module"] (defScope s_tag_signatures) := ⟨rfl, rfl, rfl, by decide +kernel, rfl, by decide +kernel, by decide +kernel⟩
theorem sc_all_items : FnScope ["module", "sort", "list_items"] ["module", "sort"] (defScope s_all_items) := ⟨rfl, rfl, rfl, by decide +kernel, rfl, by decide +kernel, by decide +kernel⟩
theorem sc_count_items : FnScope ["module", "sort"] ["module", "sort"] (defScope s_count_items) := ⟨rfl, rfl, rfl, by decide +kernel, rfl, by decide +kernel, by decide +kernel⟩
theorem sc_shape_kinds : FnScope ["signatures", "shape"] ["signatures", "shape"] (defScope s_shape_kinds) := ⟨rfl, rfl, rfl, by decide +kernel, rfl, by decide +kernel, by decide +kernel⟩
theorem sc_bodies_of : FnScope ["instruction", "name"] ["instruction"] (defScope s_bodies_of) := ⟨rfl, rfl, rfl, by decide +kernel, rfl, by decide +kernel, by decide +kernel⟩
theorem sc_local_get : FnScope ["scope", "instruction"] ["scope", "instruction"] (defScope s_local_get) := ⟨rfl, rfl, rfl, by decide +kernel, rfl, by decide +kernel, by decide +kernel⟩
theorem sc_local_set : FnScope ["scope", "instruction"] ["scope", "instruction"] (defScope s_local_set) := ⟨rfl, rfl, rfl, by decide +kernel, rfl, by decide +kernel, by decide +kernel⟩
theorem sc_local_tee : FnScope ["scope", "instruction", "kinds"] ["scope", "instruction"] (defScope s_local_tee) := ⟨rfl, rfl, rfl, by decide +kernel, rfl, by decide +kernel, by decide +kernel⟩
theorem sc_global_get : FnScope ["scope", "instruction", "kind", "_"] ["scope", "instruction"] (defScope s_global_get) := ⟨rfl, rfl, rfl, by decide +kernel, rfl, by decide +kernel, by decide +kernel⟩
theorem sc_global_set : FnScope ["scope", "instruction", "kind", "mutable"] ["scope", "instruction"] (defScope s_global_set) := ⟨rfl, rfl, rfl, by decide +kernel, rfl, by decide +kernel, by decide +kernel⟩
theorem sc_br : FnScope ["scope", "instruction"] ["scope", "instruction"] (defScope s_br) := ⟨rfl, rfl, rfl, by decide +kernel, rfl, by decide +kernel, by decide +kernel⟩
theorem sc_br_if : FnScope ["scope", "instruction", "kinds"] ["scope", "instruction"] (defScope s_br_if) := ⟨rfl, rfl, rfl, by decide +kernel, rfl, by decide +kernel, by decide +kernel⟩
theorem sc_return_effect : FnScope ["scope", "instruction"] ["scope", "instruction"] (defScope s_return_effect) := ⟨rfl, rfl, rfl, by decide +kernel, rfl, by decide +kernel, by decide +kernel⟩
theorem sc_call : FnScope ["scope", "instruction"] ["scope", "instruction"] (defScope s_call) := ⟨rfl, rfl, rfl, by decide +kernel, rfl, by decide +kernel, by decide +kernel⟩
theorem sc_call_indirect : FnScope ["scope", "instruction", "params", "results"] ["scope", "instruction"] (defScope s_call_indirect) := ⟨rfl, rfl, rfl, by decide +kernel, rfl, by decide +kernel, by decide +kernel⟩
theorem sc_throw : FnScope ["scope", "instruction"] ["scope", "instruction"] (defScope s_throw) := ⟨rfl, rfl, rfl, by decide +kernel, rfl, by decide +kernel, by decide +kernel⟩
theorem sc_access_effect : FnScope ["scope", "instruction", "name", "exponent", "_", "kind"] ["scope", "instruction"] (defScope s_access_effect) := ⟨rfl, rfl, rfl, by decide +kernel, rfl, by decide +kernel, by decide +kernel⟩
theorem sc_effect_of : FnScope ["scope", "instruction", "name", "rule"] ["scope", "instruction"] (defScope s_effect_of) := ⟨rfl, rfl, rfl, by decide +kernel, rfl, by decide +kernel, by decide +kernel⟩
theorem sc_agree : FnScope ["found", "wanted"] ["found", "wanted"] (defScope s_agree) := ⟨rfl, rfl, rfl, by decide +kernel, rfl, by decide +kernel, by decide +kernel⟩
theorem sc_walk_through : FnScope ["module", "function", "index", "own_kinds", "body", "walker"] ["module", "function"] (defScope s_walk_through) := ⟨rfl, rfl, rfl, by decide +kernel, rfl, by decide +kernel, by decide +kernel⟩
theorem sc_signature_reason : FnScope ["module", "index"] ["module", "index"] (defScope s_signature_reason) := ⟨rfl, rfl, rfl, by decide +kernel, rfl, by decide +kernel, by decide +kernel⟩
theorem sc_tag_reason : FnScope ["module", "index"] ["module", "index"] (defScope s_tag_reason) := ⟨rfl, rfl, rfl, by decide +kernel, rfl, by decide +kernel, by decide +kernel⟩
theorem sc_table_reason : FnScope ["module", "limit", "least", "most"] ["module", "limit"] (defScope s_table_reason) := ⟨rfl, rfl, rfl, by decide +kernel, rfl, by decide +kernel, by decide +kernel⟩
theorem sc_memory_reason : FnScope ["module", "limit", "least", "most"] ["module", "limit"] (defScope s_memory_reason) := ⟨rfl, rfl, rfl, by decide +kernel, rfl, by decide +kernel, by decide +kernel⟩
theorem sc_import_reason : FnScope ["module", "row", "sort", "what"] ["module", "row"] (defScope s_import_reason) := ⟨rfl, rfl, rfl, by decide +kernel, rfl, by decide +kernel, by decide +kernel⟩
theorem sc_function_reason : FnScope ["module", "function"] ["module", "function"] (defScope s_function_reason) := ⟨rfl, rfl, rfl, by decide +kernel, rfl, by decide +kernel, by decide +kernel⟩
theorem sc_constant_reason : FnScope ["module", "constant", "kind", "name", "operand", "found", "heads", "mutable"] ["module", "constant", "kind"] (defScope s_constant_reason) := ⟨rfl, rfl, rfl, by decide +kernel, rfl, by decide +kernel, by decide +kernel⟩
theorem sc_global_reason : FnScope ["module", "variable", "kind", "_", "constant"] ["module", "variable"] (defScope s_global_reason) := ⟨rfl, rfl, rfl, by decide +kernel, rfl, by decide +kernel, by decide +kernel⟩
theorem sc_start_reason : FnScope ["module", "func", "reason", "index"] ["module", "func"] (defScope s_start_reason) := ⟨rfl, rfl, rfl, by decide +kernel, rfl, by decide +kernel, by decide +kernel⟩
theorem sc_table_segment_reason : FnScope ["module", "segment", "table", "constant", "functions", "reason"] ["module", "segment"] (defScope s_table_segment_reason) := ⟨rfl, rfl, rfl, by decide +kernel, rfl, by decide +kernel, by decide +kernel⟩
theorem sc_memory_segment_reason : FnScope ["module", "segment", "memory", "constant", "_"] ["module", "segment"] (defScope s_memory_segment_reason) := ⟨rfl, rfl, rfl, by decide +kernel, rfl, by decide +kernel, by decide +kernel⟩
theorem sc_first_fault : FnScope ["module", "part", "rows", "reason_of", "index", "row", "reason"] ["module", "part", "rows", "reason_of"] (defScope s_first_fault) := ⟨rfl, rfl, rfl, by decide +kernel, rfl, by decide +kernel, by decide +kernel⟩
theorem sc_memory_count_fault : FnScope ["module"] ["module"] (defScope s_memory_count_fault) := ⟨rfl, rfl, rfl, by decide +kernel, rfl, by decide +kernel, by decide +kernel⟩
theorem sc_export_fault : FnScope ["module", "names", "at", "name", "sort", "index", "reason"] ["module"] (defScope s_export_fault) := ⟨rfl, rfl, rfl, by decide +kernel, rfl, by decide +kernel, by decide +kernel⟩
theorem sc_start_fault : FnScope ["module"] ["module"] (defScope s_start_fault) := ⟨rfl, rfl, rfl, by decide +kernel, rfl, by decide +kernel, by decide +kernel⟩
theorem sc_code_fault : FnScope ["module", "index", "function", "walker"] ["module"] (defScope s_code_fault) := ⟨rfl, rfl, rfl, by decide +kernel, rfl, by decide +kernel, by decide +kernel⟩
theorem sc_check : FnScope ["module"] ["module"] (defScope s_check) := ⟨rfl, rfl, rfl, by decide +kernel, rfl, by decide +kernel, by decide +kernel⟩
theorem sc__law_state : FnScope ["script", "digits", "seed", "cell", "rest", "k"] ["script"] (defScope s__law_state) := ⟨rfl, rfl, rfl, by decide +kernel, rfl, by decide +kernel, by decide +kernel⟩
theorem sc__law_draw : FnScope ["state", "many", "at", "digits"] ["state", "many"] (defScope s__law_draw) := ⟨rfl, rfl, rfl, by decide +kernel, rfl, by decide +kernel, by decide +kernel⟩
theorem sc__law_access : FnScope ["pick", "loads", "stores"] ["pick"] (defScope s__law_access) := ⟨rfl, rfl, rfl, by decide +kernel, rfl, by decide +kernel, by decide +kernel⟩
theorem sc__law_case : FnScope ["state", "pick", "rows", "name", "natural", "takes", "puts", "exponent"] ["state"] (defScope s__law_case) := ⟨rfl, rfl, rfl, by decide +kernel, rfl, by decide +kernel, by decide +kernel⟩
theorem sc_law : FnScope ["script", "state", "instruction", "takes", "puts", "fits", "memory", "given", "own", "whole", "code", "kinds", "place", "kind", "expected", "module"] ["script"] (defScope s_law) := ⟨rfl, rfl, rfl, by decide +kernel, rfl, by decide +kernel, by decide +kernel⟩
theorem sc_Module___init__ : FnScope ["self", "signatures", "imports", "functions", "tables", "memories", "tags", "variables", "exports", "start", "table_segments", "memory_segments"] ["self", "signatures", "imports", "functions", "tables", "memories", "tags", "variables", "exports", "start", "table_segments", "memory_segments"] (defScope s_Module___init__) := ⟨rfl, rfl, rfl, by decide +kernel, rfl, by decide +kernel, by decide +kernel⟩
theorem sc_Scope___init__ : FnScope ["self", "module", "signature", "own_kinds", "params", "results"] ["self", "module", "signature", "own_kinds"] (defScope s_Scope___init__) := ⟨rfl, rfl, rfl, by decide +kernel, rfl, by decide +kernel, by decide +kernel⟩
theorem sc_Scope_slot : FnScope ["self", "index"] ["self", "index"] (defScope s_Scope_slot) := ⟨rfl, rfl, rfl, by decide +kernel, rfl, by decide +kernel, by decide +kernel⟩
theorem sc_Scope_variable : FnScope ["self", "index"] ["self", "index"] (defScope s_Scope_variable) := ⟨rfl, rfl, rfl, by decide +kernel, rfl, by decide +kernel, by decide +kernel⟩
theorem sc_Scope_signature : FnScope ["self", "index"] ["self", "index"] (defScope s_Scope_signature) := ⟨rfl, rfl, rfl, by decide +kernel, rfl, by decide +kernel, by decide +kernel⟩
theorem sc_Scope_function : FnScope ["self", "index", "indexes"] ["self", "index"] (defScope s_Scope_function) := ⟨rfl, rfl, rfl, by decide +kernel, rfl, by decide +kernel, by decide +kernel⟩
theorem sc_Scope_tag : FnScope ["self", "index", "indexes"] ["self", "index"] (defScope s_Scope_tag) := ⟨rfl, rfl, rfl, by decide +kernel, rfl, by decide +kernel, by decide +kernel⟩
theorem sc_Scope_label : FnScope ["self", "index"] ["self", "index"] (defScope s_Scope_label) := ⟨rfl, rfl, rfl, by decide +kernel, rfl, by decide +kernel, by decide +kernel⟩
theorem sc_Scope_shape : FnScope ["self", "shape"] ["self", "shape"] (defScope s_Scope_shape) := ⟨rfl, rfl, rfl, by decide +kernel, rfl, by decide +kernel, by decide +kernel⟩
theorem sc_Scope_need_table : FnScope ["self", "index"] ["self", "index"] (defScope s_Scope_need_table) := ⟨rfl, rfl, rfl, by decide +kernel, rfl, by decide +kernel, by decide +kernel⟩
theorem sc_Scope_need_memory : FnScope ["self"] ["self"] (defScope s_Scope_need_memory) := ⟨rfl, rfl, rfl, by decide +kernel, rfl, by decide +kernel, by decide +kernel⟩
theorem sc_Level___init__ : FnScope ["self", "floor", "buried"] ["self", "floor", "buried"] (defScope s_Level___init__) := ⟨rfl, rfl, rfl, by decide +kernel, rfl, by decide +kernel, by decide +kernel⟩
theorem sc_KindStack___init__ : FnScope ["self"] ["self"] (defScope s_KindStack___init__) := ⟨rfl, rfl, rfl, by decide +kernel, rfl, by decide +kernel, by decide +kernel⟩
theorem sc_KindStack_is_dead : FnScope ["self"] ["self"] (defScope s_KindStack_is_dead) := ⟨rfl, rfl, rfl, by decide +kernel, rfl, by decide +kernel, by decide +kernel⟩
theorem sc_KindStack_shown : FnScope ["self"] ["self"] (defScope s_KindStack_shown) := ⟨rfl, rfl, rfl, by decide +kernel, rfl, by decide +kernel, by decide +kernel⟩
theorem sc_KindStack_put : FnScope ["self", "kinds"] ["self", "kinds"] (defScope s_KindStack_put) := ⟨rfl, rfl, rfl, by decide +kernel, rfl, by decide +kernel, by decide +kernel⟩
theorem sc_KindStack_need : FnScope ["self", "kinds", "level", "own", "found", "wanted"] ["self", "kinds"] (defScope s_KindStack_need) := ⟨rfl, rfl, rfl, by decide +kernel, rfl, by decide +kernel, by decide +kernel⟩
theorem sc_KindStack_take : FnScope ["self", "kinds", "count"] ["self", "kinds"] (defScope s_KindStack_take) := ⟨rfl, rfl, rfl, by decide +kernel, rfl, by decide +kernel, by decide +kernel⟩
theorem sc_KindStack_take_any : FnScope ["self"] ["self"] (defScope s_KindStack_take_any) := ⟨rfl, rfl, rfl, by decide +kernel, rfl, by decide +kernel, by decide +kernel⟩
theorem sc_KindStack_loosen : FnScope ["self", "level"] ["self"] (defScope s_KindStack_loosen) := ⟨rfl, rfl, rfl, by decide +kernel, rfl, by decide +kernel, by decide +kernel⟩
theorem sc_KindStack_enter : FnScope ["self", "params"] ["self", "params"] (defScope s_KindStack_enter) := ⟨rfl, rfl, rfl, by decide +kernel, rfl, by decide +kernel, by decide +kernel⟩
theorem sc_KindStack_leave : FnScope ["self", "results"] ["self", "results"] (defScope s_KindStack_leave) := ⟨rfl, rfl, rfl, by decide +kernel, rfl, by decide +kernel, by decide +kernel⟩
theorem sc_Walker___init__ : FnScope ["self", "module", "signature", "own_kinds"] ["self", "module", "signature", "own_kinds"] (defScope s_Walker___init__) := ⟨rfl, rfl, rfl, by decide +kernel, rfl, by decide +kernel, by decide +kernel⟩
theorem sc_Walker_walk : FnScope ["self", "body", "results", "fault"] ["self", "body"] (defScope s_Walker_walk) := ⟨rfl, rfl, rfl, by decide +kernel, rfl, by decide +kernel, by decide +kernel⟩
theorem sc_Walker_mark : FnScope ["self"] ["self"] (defScope s_Walker_mark) := ⟨rfl, rfl, rfl, by decide +kernel, rfl, by decide +kernel, by decide +kernel⟩
theorem sc_Walker_walk_body : FnScope ["self", "body", "params", "results", "label", "instruction"] ["self", "body", "params", "results", "label"] (defScope s_Walker_walk_body) := ⟨rfl, rfl, rfl, by decide +kernel, rfl, by decide +kernel, by decide +kernel⟩
theorem sc_Walker_walk_instruction : FnScope ["self", "instruction", "name", "taken", "given"] ["self", "instruction"] (defScope s_Walker_walk_instruction) := ⟨rfl, rfl, rfl, by decide +kernel, rfl, by decide +kernel, by decide +kernel⟩
theorem sc_Walker_choose : FnScope ["self", "upper", "lower"] ["self"] (defScope s_Walker_choose) := ⟨rfl, rfl, rfl, by decide +kernel, rfl, by decide +kernel, by decide +kernel⟩
theorem sc_Walker_branch_by_table : FnScope ["self", "instruction", "_", "labels", "default", "rows", "kinds", "label"] ["self", "instruction"] (defScope s_Walker_branch_by_table) := ⟨rfl, rfl, rfl, by decide +kernel, rfl, by decide +kernel, by decide +kernel⟩
theorem sc_Walker_check_catch : FnScope ["self", "tag", "label", "kinds", "carried"] ["self", "tag", "label"] (defScope s_Walker_check_catch) := ⟨rfl, rfl, rfl, by decide +kernel, rfl, by decide +kernel, by decide +kernel⟩
theorem sc_Walker_walk_block : FnScope ["self", "instruction", "name", "params", "results", "kinds", "body", "tag", "label"] ["self", "instruction"] (defScope s_Walker_walk_block) := ⟨rfl, rfl, rfl, by decide +kernel, rfl, by decide +kernel, by decide +kernel⟩
/-- where the own classes stand -/
structure Cs where
  C_HostError : Addr
  C_CodeFault : Addr
  I_CodeFault : Addr
  D_CodeFault : FuncData
  t_LISTS : Addr
  t_BLOCKS : Addr
  t_ACCESS_BITS : Addr
  t_MOST_EXPONENTS : Addr
  t_RULES : Addr
  t_MEMORY_EFFECTS : Addr
  t_PLAIN_EFFECTS : Addr
  t_LOOSENING : Addr
  t_UNKNOWN : Addr
  f_import_reason : Addr
  f_function_reason : Addr
  f_table_reason : Addr
  f_memory_reason : Addr
  f_tag_reason : Addr
  f_global_reason : Addr
  f_table_segment_reason : Addr
  f_memory_segment_reason : Addr
  f_start_reason : Addr
  f_function_signatures : Addr
  f_table_limits : Addr
  f_memory_limits : Addr
  f_global_heads : Addr
  f_tag_signatures : Addr
  f_local_get : Addr
  f_local_set : Addr
  f_local_tee : Addr
  f_global_get : Addr
  f_global_set : Addr
  f_br : Addr
  f_br_if : Addr
  f_return_effect : Addr
  f_call : Addr
  f_call_indirect : Addr
  f_throw : Addr
  C_Module : Addr
  C_Scope : Addr
  C_Level : Addr
  C_KindStack : Addr
  C_Walker : Addr
  e_Module_signatures : Addr
  e_Module_imports : Addr
  e_Module_functions : Addr
  e_Module_tables : Addr
  e_Module_memories : Addr
  e_Module_tags : Addr
  e_Module_variables : Addr
  e_Module_exports : Addr
  e_Module_table_segments : Addr
  e_Module_memory_segments : Addr
  q_MEMORY_EFFECTS_0 : Addr
  q_MEMORY_EFFECTS_1 : Addr
  q_MEMORY_EFFECTS_2 : Addr
  q_MEMORY_EFFECTS_3 : Addr
  q_PLAIN_EFFECTS_0 : Addr
  q_PLAIN_EFFECTS_1 : Addr
  q_PLAIN_EFFECTS_2 : Addr
  q_PLAIN_EFFECTS_3 : Addr
  q_PLAIN_EFFECTS_4 : Addr
def v_LISTS (cs : Cs) : List (Str × V) := [("func", .ref cs.f_function_signatures), ("table", .ref cs.f_table_limits), ("memory", .ref cs.f_memory_limits), ("global", .ref cs.f_global_heads), ("tag", .ref cs.f_tag_signatures)]
def v_BLOCKS : List Str := ("block" : Str) :: ("loop" : Str) :: ("if" : Str) :: ("try_table" : Str) :: []
def v_ACCESS_BITS (cs : Cs) : List (Str × V) := [("i32.load", .int 32), ("i64.load", .int 64), ("i32.load8_s", .int 8), ("i32.load8_u", .int 8), ("i32.load16_s", .int 16), ("i32.load16_u", .int 16), ("i64.load8_s", .int 8), ("i64.load8_u", .int 8), ("i64.load16_s", .int 16), ("i64.load16_u", .int 16), ("i64.load32_s", .int 32), ("i64.load32_u", .int 32), ("i32.store", .int 32), ("i64.store", .int 64), ("i32.store8", .int 8), ("i32.store16", .int 16), ("i64.store8", .int 8), ("i64.store16", .int 16), ("i64.store32", .int 32)]
def zi_MOST_EXPONENTS : List (Int × V) := [(8, .int 0), (16, .int 1), (32, .int 2), (64, .int 3)]
abbrev v_MOST_EXPONENTS (_ : Cs) : List (Int × V) := zi_MOST_EXPONENTS
theorem nd_MOST_EXPONENTS : (zi_MOST_EXPONENTS.map (·.1)).Nodup := by decide +kernel
def v_RULES (cs : Cs) : List (Str × V) := [("local.get", .ref cs.f_local_get), ("local.set", .ref cs.f_local_set), ("local.tee", .ref cs.f_local_tee), ("global.get", .ref cs.f_global_get), ("global.set", .ref cs.f_global_set), ("br", .ref cs.f_br), ("br_if", .ref cs.f_br_if), ("return", .ref cs.f_return_effect), ("call", .ref cs.f_call), ("call_indirect", .ref cs.f_call_indirect), ("throw", .ref cs.f_throw)]
def v_MEMORY_EFFECTS (cs : Cs) : List (Str × V) := [("memory.size", .ref cs.q_MEMORY_EFFECTS_0), ("memory.grow", .ref cs.q_MEMORY_EFFECTS_1), ("memory.fill", .ref cs.q_MEMORY_EFFECTS_2), ("memory.copy", .ref cs.q_MEMORY_EFFECTS_3)]
def v_PLAIN_EFFECTS (cs : Cs) : List (Str × V) := [("nop", .ref cs.q_PLAIN_EFFECTS_0), ("unreachable", .ref cs.q_PLAIN_EFFECTS_1), ("drop", .ref cs.q_PLAIN_EFFECTS_2), ("i32.const", .ref cs.q_PLAIN_EFFECTS_3), ("i64.const", .ref cs.q_PLAIN_EFFECTS_4)]
def v_LOOSENING : List Str := ("br" : Str) :: ("br_table" : Str) :: ("return" : Str) :: ("throw" : Str) :: ("unreachable" : Str) :: []
def v_UNKNOWN (cs : Cs) : List (Str × V) := [("func", .str "unknown function"), ("table", .str "unknown table"), ("memory", .str "unknown memory"), ("global", .str "unknown global"), ("tag", .str "unknown tag")]
abbrev i_CodeFault : Stmt := inClass (top 19) 0
theorem sci_CodeFault : FnScope ["self", "reason"] ["self", "reason"] (defScope i_CodeFault) := ⟨rfl, rfl, rfl, by decide +kernel, rfl, by decide +kernel, by decide +kernel⟩
/-! the attributes of an object of Module -/
def fs_Module (x0 x1 x2 x3 x4 x5 x6 x7 x8 x9 x10 : V) : List (Str × V) := [("signatures", x0), ("imports", x1), ("functions", x2), ("tables", x3), ("memories", x4), ("tags", x5), ("variables", x6), ("exports", x7), ("start", x8), ("table_segments", x9), ("memory_segments", x10)]
theorem lk_Module_signatures {x0 x1 x2 x3 x4 x5 x6 x7 x8 x9 x10 : V} : (fs_Module x0 x1 x2 x3 x4 x5 x6 x7 x8 x9 x10).lookup ("signatures" : Str) = some x0 := lk_hd
theorem pt_Module_signatures {x0 x1 x2 x3 x4 x5 x6 x7 x8 x9 x10 v : V} : putF "signatures" v (fs_Module x0 x1 x2 x3 x4 x5 x6 x7 x8 x9 x10) = fs_Module v x1 x2 x3 x4 x5 x6 x7 x8 x9 x10 := pt_hd
theorem lk_Module_imports {x0 x1 x2 x3 x4 x5 x6 x7 x8 x9 x10 : V} : (fs_Module x0 x1 x2 x3 x4 x5 x6 x7 x8 x9 x10).lookup ("imports" : Str) = some x1 := (lk_tl (by decide +kernel)).trans (lk_hd)
theorem pt_Module_imports {x0 x1 x2 x3 x4 x5 x6 x7 x8 x9 x10 v : V} : putF "imports" v (fs_Module x0 x1 x2 x3 x4 x5 x6 x7 x8 x9 x10) = fs_Module x0 v x2 x3 x4 x5 x6 x7 x8 x9 x10 := pt_tl (by decide +kernel) (pt_hd)
theorem lk_Module_functions {x0 x1 x2 x3 x4 x5 x6 x7 x8 x9 x10 : V} : (fs_Module x0 x1 x2 x3 x4 x5 x6 x7 x8 x9 x10).lookup ("functions" : Str) = some x2 := (lk_tl (by decide +kernel)).trans ((lk_tl (by decide +kernel)).trans (lk_hd))
theorem pt_Module_functions {x0 x1 x2 x3 x4 x5 x6 x7 x8 x9 x10 v : V} : putF "functions" v (fs_Module x0 x1 x2 x3 x4 x5 x6 x7 x8 x9 x10) = fs_Module x0 x1 v x3 x4 x5 x6 x7 x8 x9 x10 := pt_tl (by decide +kernel) (pt_tl (by decide +kernel) (pt_hd))
theorem lk_Module_tables {x0 x1 x2 x3 x4 x5 x6 x7 x8 x9 x10 : V} : (fs_Module x0 x1 x2 x3 x4 x5 x6 x7 x8 x9 x10).lookup ("tables" : Str) = some x3 := (lk_tl (by decide +kernel)).trans ((lk_tl (by decide +kernel)).trans ((lk_tl (by decide +kernel)).trans (lk_hd)))
theorem pt_Module_tables {x0 x1 x2 x3 x4 x5 x6 x7 x8 x9 x10 v : V} : putF "tables" v (fs_Module x0 x1 x2 x3 x4 x5 x6 x7 x8 x9 x10) = fs_Module x0 x1 x2 v x4 x5 x6 x7 x8 x9 x10 := pt_tl (by decide +kernel) (pt_tl (by decide +kernel) (pt_tl (by decide +kernel) (pt_hd)))
theorem lk_Module_memories {x0 x1 x2 x3 x4 x5 x6 x7 x8 x9 x10 : V} : (fs_Module x0 x1 x2 x3 x4 x5 x6 x7 x8 x9 x10).lookup ("memories" : Str) = some x4 := (lk_tl (by decide +kernel)).trans ((lk_tl (by decide +kernel)).trans ((lk_tl (by decide +kernel)).trans ((lk_tl (by decide +kernel)).trans (lk_hd))))
theorem pt_Module_memories {x0 x1 x2 x3 x4 x5 x6 x7 x8 x9 x10 v : V} : putF "memories" v (fs_Module x0 x1 x2 x3 x4 x5 x6 x7 x8 x9 x10) = fs_Module x0 x1 x2 x3 v x5 x6 x7 x8 x9 x10 := pt_tl (by decide +kernel) (pt_tl (by decide +kernel) (pt_tl (by decide +kernel) (pt_tl (by decide +kernel) (pt_hd))))
theorem lk_Module_tags {x0 x1 x2 x3 x4 x5 x6 x7 x8 x9 x10 : V} : (fs_Module x0 x1 x2 x3 x4 x5 x6 x7 x8 x9 x10).lookup ("tags" : Str) = some x5 := (lk_tl (by decide +kernel)).trans ((lk_tl (by decide +kernel)).trans ((lk_tl (by decide +kernel)).trans ((lk_tl (by decide +kernel)).trans ((lk_tl (by decide +kernel)).trans (lk_hd)))))
theorem pt_Module_tags {x0 x1 x2 x3 x4 x5 x6 x7 x8 x9 x10 v : V} : putF "tags" v (fs_Module x0 x1 x2 x3 x4 x5 x6 x7 x8 x9 x10) = fs_Module x0 x1 x2 x3 x4 v x6 x7 x8 x9 x10 := pt_tl (by decide +kernel) (pt_tl (by decide +kernel) (pt_tl (by decide +kernel) (pt_tl (by decide +kernel) (pt_tl (by decide +kernel) (pt_hd)))))
theorem lk_Module_variables {x0 x1 x2 x3 x4 x5 x6 x7 x8 x9 x10 : V} : (fs_Module x0 x1 x2 x3 x4 x5 x6 x7 x8 x9 x10).lookup ("variables" : Str) = some x6 := (lk_tl (by decide +kernel)).trans ((lk_tl (by decide +kernel)).trans ((lk_tl (by decide +kernel)).trans ((lk_tl (by decide +kernel)).trans ((lk_tl (by decide +kernel)).trans ((lk_tl (by decide +kernel)).trans (lk_hd))))))
theorem pt_Module_variables {x0 x1 x2 x3 x4 x5 x6 x7 x8 x9 x10 v : V} : putF "variables" v (fs_Module x0 x1 x2 x3 x4 x5 x6 x7 x8 x9 x10) = fs_Module x0 x1 x2 x3 x4 x5 v x7 x8 x9 x10 := pt_tl (by decide +kernel) (pt_tl (by decide +kernel) (pt_tl (by decide +kernel) (pt_tl (by decide +kernel) (pt_tl (by decide +kernel) (pt_tl (by decide +kernel) (pt_hd))))))
theorem lk_Module_exports {x0 x1 x2 x3 x4 x5 x6 x7 x8 x9 x10 : V} : (fs_Module x0 x1 x2 x3 x4 x5 x6 x7 x8 x9 x10).lookup ("exports" : Str) = some x7 := (lk_tl (by decide +kernel)).trans ((lk_tl (by decide +kernel)).trans ((lk_tl (by decide +kernel)).trans ((lk_tl (by decide +kernel)).trans ((lk_tl (by decide +kernel)).trans ((lk_tl (by decide +kernel)).trans ((lk_tl (by decide +kernel)).trans (lk_hd)))))))
theorem pt_Module_exports {x0 x1 x2 x3 x4 x5 x6 x7 x8 x9 x10 v : V} : putF "exports" v (fs_Module x0 x1 x2 x3 x4 x5 x6 x7 x8 x9 x10) = fs_Module x0 x1 x2 x3 x4 x5 x6 v x8 x9 x10 := pt_tl (by decide +kernel) (pt_tl (by decide +kernel) (pt_tl (by decide +kernel) (pt_tl (by decide +kernel) (pt_tl (by decide +kernel) (pt_tl (by decide +kernel) (pt_tl (by decide +kernel) (pt_hd)))))))
theorem lk_Module_start {x0 x1 x2 x3 x4 x5 x6 x7 x8 x9 x10 : V} : (fs_Module x0 x1 x2 x3 x4 x5 x6 x7 x8 x9 x10).lookup ("start" : Str) = some x8 := (lk_tl (by decide +kernel)).trans ((lk_tl (by decide +kernel)).trans ((lk_tl (by decide +kernel)).trans ((lk_tl (by decide +kernel)).trans ((lk_tl (by decide +kernel)).trans ((lk_tl (by decide +kernel)).trans ((lk_tl (by decide +kernel)).trans ((lk_tl (by decide +kernel)).trans (lk_hd))))))))
theorem pt_Module_start {x0 x1 x2 x3 x4 x5 x6 x7 x8 x9 x10 v : V} : putF "start" v (fs_Module x0 x1 x2 x3 x4 x5 x6 x7 x8 x9 x10) = fs_Module x0 x1 x2 x3 x4 x5 x6 x7 v x9 x10 := pt_tl (by decide +kernel) (pt_tl (by decide +kernel) (pt_tl (by decide +kernel) (pt_tl (by decide +kernel) (pt_tl (by decide +kernel) (pt_tl (by decide +kernel) (pt_tl (by decide +kernel) (pt_tl (by decide +kernel) (pt_hd))))))))
theorem lk_Module_table_segments {x0 x1 x2 x3 x4 x5 x6 x7 x8 x9 x10 : V} : (fs_Module x0 x1 x2 x3 x4 x5 x6 x7 x8 x9 x10).lookup ("table_segments" : Str) = some x9 := (lk_tl (by decide +kernel)).trans ((lk_tl (by decide +kernel)).trans ((lk_tl (by decide +kernel)).trans ((lk_tl (by decide +kernel)).trans ((lk_tl (by decide +kernel)).trans ((lk_tl (by decide +kernel)).trans ((lk_tl (by decide +kernel)).trans ((lk_tl (by decide +kernel)).trans ((lk_tl (by decide +kernel)).trans (lk_hd)))))))))
theorem pt_Module_table_segments {x0 x1 x2 x3 x4 x5 x6 x7 x8 x9 x10 v : V} : putF "table_segments" v (fs_Module x0 x1 x2 x3 x4 x5 x6 x7 x8 x9 x10) = fs_Module x0 x1 x2 x3 x4 x5 x6 x7 x8 v x10 := pt_tl (by decide +kernel) (pt_tl (by decide +kernel) (pt_tl (by decide +kernel) (pt_tl (by decide +kernel) (pt_tl (by decide +kernel) (pt_tl (by decide +kernel) (pt_tl (by decide +kernel) (pt_tl (by decide +kernel) (pt_tl (by decide +kernel) (pt_hd)))))))))
theorem lk_Module_memory_segments {x0 x1 x2 x3 x4 x5 x6 x7 x8 x9 x10 : V} : (fs_Module x0 x1 x2 x3 x4 x5 x6 x7 x8 x9 x10).lookup ("memory_segments" : Str) = some x10 := (lk_tl (by decide +kernel)).trans ((lk_tl (by decide +kernel)).trans ((lk_tl (by decide +kernel)).trans ((lk_tl (by decide +kernel)).trans ((lk_tl (by decide +kernel)).trans ((lk_tl (by decide +kernel)).trans ((lk_tl (by decide +kernel)).trans ((lk_tl (by decide +kernel)).trans ((lk_tl (by decide +kernel)).trans ((lk_tl (by decide +kernel)).trans (lk_hd))))))))))
theorem pt_Module_memory_segments {x0 x1 x2 x3 x4 x5 x6 x7 x8 x9 x10 v : V} : putF "memory_segments" v (fs_Module x0 x1 x2 x3 x4 x5 x6 x7 x8 x9 x10) = fs_Module x0 x1 x2 x3 x4 x5 x6 x7 x8 x9 v := pt_tl (by decide +kernel) (pt_tl (by decide +kernel) (pt_tl (by decide +kernel) (pt_tl (by decide +kernel) (pt_tl (by decide +kernel) (pt_tl (by decide +kernel) (pt_tl (by decide +kernel) (pt_tl (by decide +kernel) (pt_tl (by decide +kernel) (pt_tl (by decide +kernel) (pt_hd))))))))))
theorem no_Module___init__ {x0 x1 x2 x3 x4 x5 x6 x7 x8 x9 x10 : V} : (fs_Module x0 x1 x2 x3 x4 x5 x6 x7 x8 x9 x10).lookup ("__init__" : Str) = none := (lk_tl (by decide +kernel)).trans ((lk_tl (by decide +kernel)).trans ((lk_tl (by decide +kernel)).trans ((lk_tl (by decide +kernel)).trans ((lk_tl (by decide +kernel)).trans ((lk_tl (by decide +kernel)).trans ((lk_tl (by decide +kernel)).trans ((lk_tl (by decide +kernel)).trans ((lk_tl (by decide +kernel)).trans ((lk_tl (by decide +kernel)).trans ((lk_tl (by decide +kernel)).trans (rfl)))))))))))
theorem in_Module_0 {x0 x1 x2 x3 x4 x5 x6 x7 x8 x9 x10 : V} : putF "signatures" x0 ([] : List (Str × V)) = [(("signatures" : Str), x0)] := pt_nl
theorem in_Module_1 {x0 x1 x2 x3 x4 x5 x6 x7 x8 x9 x10 : V} : putF "imports" x1 ([(("signatures" : Str), x0)] : List (Str × V)) = [(("signatures" : Str), x0), (("imports" : Str), x1)] := pt_tl (by decide +kernel) (pt_nl)
theorem in_Module_2 {x0 x1 x2 x3 x4 x5 x6 x7 x8 x9 x10 : V} : putF "functions" x2 ([(("signatures" : Str), x0), (("imports" : Str), x1)] : List (Str × V)) = [(("signatures" : Str), x0), (("imports" : Str), x1), (("functions" : Str), x2)] := pt_tl (by decide +kernel) (pt_tl (by decide +kernel) (pt_nl))
theorem in_Module_3 {x0 x1 x2 x3 x4 x5 x6 x7 x8 x9 x10 : V} : putF "tables" x3 ([(("signatures" : Str), x0), (("imports" : Str), x1), (("functions" : Str), x2)] : List (Str × V)) = [(("signatures" : Str), x0), (("imports" : Str), x1), (("functions" : Str), x2), (("tables" : Str), x3)] := pt_tl (by decide +kernel) (pt_tl (by decide +kernel) (pt_tl (by decide +kernel) (pt_nl)))
theorem in_Module_4 {x0 x1 x2 x3 x4 x5 x6 x7 x8 x9 x10 : V} : putF "memories" x4 ([(("signatures" : Str), x0), (("imports" : Str), x1), (("functions" : Str), x2), (("tables" : Str), x3)] : List (Str × V)) = [(("signatures" : Str), x0), (("imports" : Str), x1), (("functions" : Str), x2), (("tables" : Str), x3), (("memories" : Str), x4)] := pt_tl (by decide +kernel) (pt_tl (by decide +kernel) (pt_tl (by decide +kernel) (pt_tl (by decide +kernel) (pt_nl))))
theorem in_Module_5 {x0 x1 x2 x3 x4 x5 x6 x7 x8 x9 x10 : V} : putF "tags" x5 ([(("signatures" : Str), x0), (("imports" : Str), x1), (("functions" : Str), x2), (("tables" : Str), x3), (("memories" : Str), x4)] : List (Str × V)) = [(("signatures" : Str), x0), (("imports" : Str), x1), (("functions" : Str), x2), (("tables" : Str), x3), (("memories" : Str), x4), (("tags" : Str), x5)] := pt_tl (by decide +kernel) (pt_tl (by decide +kernel) (pt_tl (by decide +kernel) (pt_tl (by decide +kernel) (pt_tl (by decide +kernel) (pt_nl)))))
theorem in_Module_6 {x0 x1 x2 x3 x4 x5 x6 x7 x8 x9 x10 : V} : putF "variables" x6 ([(("signatures" : Str), x0), (("imports" : Str), x1), (("functions" : Str), x2), (("tables" : Str), x3), (("memories" : Str), x4), (("tags" : Str), x5)] : List (Str × V)) = [(("signatures" : Str), x0), (("imports" : Str), x1), (("functions" : Str), x2), (("tables" : Str), x3), (("memories" : Str), x4), (("tags" : Str), x5), (("variables" : Str), x6)] := pt_tl (by decide +kernel) (pt_tl (by decide +kernel) (pt_tl (by decide +kernel) (pt_tl (by decide +kernel) (pt_tl (by decide +kernel) (pt_tl (by decide +kernel) (pt_nl))))))
theorem in_Module_7 {x0 x1 x2 x3 x4 x5 x6 x7 x8 x9 x10 : V} : putF "exports" x7 ([(("signatures" : Str), x0), (("imports" : Str), x1), (("functions" : Str), x2), (("tables" : Str), x3), (("memories" : Str), x4), (("tags" : Str), x5), (("variables" : Str), x6)] : List (Str × V)) = [(("signatures" : Str), x0), (("imports" : Str), x1), (("functions" : Str), x2), (("tables" : Str), x3), (("memories" : Str), x4), (("tags" : Str), x5), (("variables" : Str), x6), (("exports" : Str), x7)] := pt_tl (by decide +kernel) (pt_tl (by decide +kernel) (pt_tl (by decide +kernel) (pt_tl (by decide +kernel) (pt_tl (by decide +kernel) (pt_tl (by decide +kernel) (pt_tl (by decide +kernel) (pt_nl)))))))
theorem in_Module_8 {x0 x1 x2 x3 x4 x5 x6 x7 x8 x9 x10 : V} : putF "start" x8 ([(("signatures" : Str), x0), (("imports" : Str), x1), (("functions" : Str), x2), (("tables" : Str), x3), (("memories" : Str), x4), (("tags" : Str), x5), (("variables" : Str), x6), (("exports" : Str), x7)] : List (Str × V)) = [(("signatures" : Str), x0), (("imports" : Str), x1), (("functions" : Str), x2), (("tables" : Str), x3), (("memories" : Str), x4), (("tags" : Str), x5), (("variables" : Str), x6), (("exports" : Str), x7), (("start" : Str), x8)] := pt_tl (by decide +kernel) (pt_tl (by decide +kernel) (pt_tl (by decide +kernel) (pt_tl (by decide +kernel) (pt_tl (by decide +kernel) (pt_tl (by decide +kernel) (pt_tl (by decide +kernel) (pt_tl (by decide +kernel) (pt_nl))))))))
theorem in_Module_9 {x0 x1 x2 x3 x4 x5 x6 x7 x8 x9 x10 : V} : putF "table_segments" x9 ([(("signatures" : Str), x0), (("imports" : Str), x1), (("functions" : Str), x2), (("tables" : Str), x3), (("memories" : Str), x4), (("tags" : Str), x5), (("variables" : Str), x6), (("exports" : Str), x7), (("start" : Str), x8)] : List (Str × V)) = [(("signatures" : Str), x0), (("imports" : Str), x1), (("functions" : Str), x2), (("tables" : Str), x3), (("memories" : Str), x4), (("tags" : Str), x5), (("variables" : Str), x6), (("exports" : Str), x7), (("start" : Str), x8), (("table_segments" : Str), x9)] := pt_tl (by decide +kernel) (pt_tl (by decide +kernel) (pt_tl (by decide +kernel) (pt_tl (by decide +kernel) (pt_tl (by decide +kernel) (pt_tl (by decide +kernel) (pt_tl (by decide +kernel) (pt_tl (by decide +kernel) (pt_tl (by decide +kernel) (pt_nl)))))))))
theorem in_Module_10 {x0 x1 x2 x3 x4 x5 x6 x7 x8 x9 x10 : V} : putF "memory_segments" x10 ([(("signatures" : Str), x0), (("imports" : Str), x1), (("functions" : Str), x2), (("tables" : Str), x3), (("memories" : Str), x4), (("tags" : Str), x5), (("variables" : Str), x6), (("exports" : Str), x7), (("start" : Str), x8), (("table_segments" : Str), x9)] : List (Str × V)) = [(("signatures" : Str), x0), (("imports" : Str), x1), (("functions" : Str), x2), (("tables" : Str), x3), (("memories" : Str), x4), (("tags" : Str), x5), (("variables" : Str), x6), (("exports" : Str), x7), (("start" : Str), x8), (("table_segments" : Str), x9), (("memory_segments" : Str), x10)] := pt_tl (by decide +kernel) (pt_tl (by decide +kernel) (pt_tl (by decide +kernel) (pt_tl (by decide +kernel) (pt_tl (by decide +kernel) (pt_tl (by decide +kernel) (pt_tl (by decide +kernel) (pt_tl (by decide +kernel) (pt_tl (by decide +kernel) (pt_tl (by decide +kernel) (pt_nl))))))))))
/-! the attributes of an object of Scope -/
def fs_Scope (x0 x1 x2 x3 x4 x5 x6 x7 x8 : V) : List (Str × V) := [("slots", x0), ("results", x1), ("labels", x2), ("signatures", x3), ("function_indexes", x4), ("tag_indexes", x5), ("heads", x6), ("table_count", x7), ("memory_count", x8)]
theorem lk_Scope_slots {x0 x1 x2 x3 x4 x5 x6 x7 x8 : V} : (fs_Scope x0 x1 x2 x3 x4 x5 x6 x7 x8).lookup ("slots" : Str) = some x0 := lk_hd
theorem pt_Scope_slots {x0 x1 x2 x3 x4 x5 x6 x7 x8 v : V} : putF "slots" v (fs_Scope x0 x1 x2 x3 x4 x5 x6 x7 x8) = fs_Scope v x1 x2 x3 x4 x5 x6 x7 x8 := pt_hd
theorem lk_Scope_results {x0 x1 x2 x3 x4 x5 x6 x7 x8 : V} : (fs_Scope x0 x1 x2 x3 x4 x5 x6 x7 x8).lookup ("results" : Str) = some x1 := (lk_tl (by decide +kernel)).trans (lk_hd)
theorem pt_Scope_results {x0 x1 x2 x3 x4 x5 x6 x7 x8 v : V} : putF "results" v (fs_Scope x0 x1 x2 x3 x4 x5 x6 x7 x8) = fs_Scope x0 v x2 x3 x4 x5 x6 x7 x8 := pt_tl (by decide +kernel) (pt_hd)
theorem lk_Scope_labels {x0 x1 x2 x3 x4 x5 x6 x7 x8 : V} : (fs_Scope x0 x1 x2 x3 x4 x5 x6 x7 x8).lookup ("labels" : Str) = some x2 := (lk_tl (by decide +kernel)).trans ((lk_tl (by decide +kernel)).trans (lk_hd))
theorem pt_Scope_labels {x0 x1 x2 x3 x4 x5 x6 x7 x8 v : V} : putF "labels" v (fs_Scope x0 x1 x2 x3 x4 x5 x6 x7 x8) = fs_Scope x0 x1 v x3 x4 x5 x6 x7 x8 := pt_tl (by decide +kernel) (pt_tl (by decide +kernel) (pt_hd))
theorem lk_Scope_signatures {x0 x1 x2 x3 x4 x5 x6 x7 x8 : V} : (fs_Scope x0 x1 x2 x3 x4 x5 x6 x7 x8).lookup ("signatures" : Str) = some x3 := (lk_tl (by decide +kernel)).trans ((lk_tl (by decide +kernel)).trans ((lk_tl (by decide +kernel)).trans (lk_hd)))
theorem pt_Scope_signatures {x0 x1 x2 x3 x4 x5 x6 x7 x8 v : V} : putF "signatures" v (fs_Scope x0 x1 x2 x3 x4 x5 x6 x7 x8) = fs_Scope x0 x1 x2 v x4 x5 x6 x7 x8 := pt_tl (by decide +kernel) (pt_tl (by decide +kernel) (pt_tl (by decide +kernel) (pt_hd)))
theorem lk_Scope_function_indexes {x0 x1 x2 x3 x4 x5 x6 x7 x8 : V} : (fs_Scope x0 x1 x2 x3 x4 x5 x6 x7 x8).lookup ("function_indexes" : Str) = some x4 := (lk_tl (by decide +kernel)).trans ((lk_tl (by decide +kernel)).trans ((lk_tl (by decide +kernel)).trans ((lk_tl (by decide +kernel)).trans (lk_hd))))
theorem pt_Scope_function_indexes {x0 x1 x2 x3 x4 x5 x6 x7 x8 v : V} : putF "function_indexes" v (fs_Scope x0 x1 x2 x3 x4 x5 x6 x7 x8) = fs_Scope x0 x1 x2 x3 v x5 x6 x7 x8 := pt_tl (by decide +kernel) (pt_tl (by decide +kernel) (pt_tl (by decide +kernel) (pt_tl (by decide +kernel) (pt_hd))))
theorem lk_Scope_tag_indexes {x0 x1 x2 x3 x4 x5 x6 x7 x8 : V} : (fs_Scope x0 x1 x2 x3 x4 x5 x6 x7 x8).lookup ("tag_indexes" : Str) = some x5 := (lk_tl (by decide +kernel)).trans ((lk_tl (by decide +kernel)).trans ((lk_tl (by decide +kernel)).trans ((lk_tl (by decide +kernel)).trans ((lk_tl (by decide +kernel)).trans (lk_hd)))))
theorem pt_Scope_tag_indexes {x0 x1 x2 x3 x4 x5 x6 x7 x8 v : V} : putF "tag_indexes" v (fs_Scope x0 x1 x2 x3 x4 x5 x6 x7 x8) = fs_Scope x0 x1 x2 x3 x4 v x6 x7 x8 := pt_tl (by decide +kernel) (pt_tl (by decide +kernel) (pt_tl (by decide +kernel) (pt_tl (by decide +kernel) (pt_tl (by decide +kernel) (pt_hd)))))
theorem lk_Scope_heads {x0 x1 x2 x3 x4 x5 x6 x7 x8 : V} : (fs_Scope x0 x1 x2 x3 x4 x5 x6 x7 x8).lookup ("heads" : Str) = some x6 := (lk_tl (by decide +kernel)).trans ((lk_tl (by decide +kernel)).trans ((lk_tl (by decide +kernel)).trans ((lk_tl (by decide +kernel)).trans ((lk_tl (by decide +kernel)).trans ((lk_tl (by decide +kernel)).trans (lk_hd))))))
theorem pt_Scope_heads {x0 x1 x2 x3 x4 x5 x6 x7 x8 v : V} : putF "heads" v (fs_Scope x0 x1 x2 x3 x4 x5 x6 x7 x8) = fs_Scope x0 x1 x2 x3 x4 x5 v x7 x8 := pt_tl (by decide +kernel) (pt_tl (by decide +kernel) (pt_tl (by decide +kernel) (pt_tl (by decide +kernel) (pt_tl (by decide +kernel) (pt_tl (by decide +kernel) (pt_hd))))))
theorem lk_Scope_table_count {x0 x1 x2 x3 x4 x5 x6 x7 x8 : V} : (fs_Scope x0 x1 x2 x3 x4 x5 x6 x7 x8).lookup ("table_count" : Str) = some x7 := (lk_tl (by decide +kernel)).trans ((lk_tl (by decide +kernel)).trans ((lk_tl (by decide +kernel)).trans ((lk_tl (by decide +kernel)).trans ((lk_tl (by decide +kernel)).trans ((lk_tl (by decide +kernel)).trans ((lk_tl (by decide +kernel)).trans (lk_hd)))))))
theorem pt_Scope_table_count {x0 x1 x2 x3 x4 x5 x6 x7 x8 v : V} : putF "table_count" v (fs_Scope x0 x1 x2 x3 x4 x5 x6 x7 x8) = fs_Scope x0 x1 x2 x3 x4 x5 x6 v x8 := pt_tl (by decide +kernel) (pt_tl (by decide +kernel) (pt_tl (by decide +kernel) (pt_tl (by decide +kernel) (pt_tl (by decide +kernel) (pt_tl (by decide +kernel) (pt_tl (by decide +kernel) (pt_hd)))))))
theorem lk_Scope_memory_count {x0 x1 x2 x3 x4 x5 x6 x7 x8 : V} : (fs_Scope x0 x1 x2 x3 x4 x5 x6 x7 x8).lookup ("memory_count" : Str) = some x8 := (lk_tl (by decide +kernel)).trans ((lk_tl (by decide +kernel)).trans ((lk_tl (by decide +kernel)).trans ((lk_tl (by decide +kernel)).trans ((lk_tl (by decide +kernel)).trans ((lk_tl (by decide +kernel)).trans ((lk_tl (by decide +kernel)).trans ((lk_tl (by decide +kernel)).trans (lk_hd))))))))
theorem pt_Scope_memory_count {x0 x1 x2 x3 x4 x5 x6 x7 x8 v : V} : putF "memory_count" v (fs_Scope x0 x1 x2 x3 x4 x5 x6 x7 x8) = fs_Scope x0 x1 x2 x3 x4 x5 x6 x7 v := pt_tl (by decide +kernel) (pt_tl (by decide +kernel) (pt_tl (by decide +kernel) (pt_tl (by decide +kernel) (pt_tl (by decide +kernel) (pt_tl (by decide +kernel) (pt_tl (by decide +kernel) (pt_tl (by decide +kernel) (pt_hd))))))))
theorem no_Scope___init__ {x0 x1 x2 x3 x4 x5 x6 x7 x8 : V} : (fs_Scope x0 x1 x2 x3 x4 x5 x6 x7 x8).lookup ("__init__" : Str) = none := (lk_tl (by decide +kernel)).trans ((lk_tl (by decide +kernel)).trans ((lk_tl (by decide +kernel)).trans ((lk_tl (by decide +kernel)).trans ((lk_tl (by decide +kernel)).trans ((lk_tl (by decide +kernel)).trans ((lk_tl (by decide +kernel)).trans ((lk_tl (by decide +kernel)).trans ((lk_tl (by decide +kernel)).trans (rfl)))))))))
theorem no_Scope_slot {x0 x1 x2 x3 x4 x5 x6 x7 x8 : V} : (fs_Scope x0 x1 x2 x3 x4 x5 x6 x7 x8).lookup ("slot" : Str) = none := (lk_tl (by decide +kernel)).trans ((lk_tl (by decide +kernel)).trans ((lk_tl (by decide +kernel)).trans ((lk_tl (by decide +kernel)).trans ((lk_tl (by decide +kernel)).trans ((lk_tl (by decide +kernel)).trans ((lk_tl (by decide +kernel)).trans ((lk_tl (by decide +kernel)).trans ((lk_tl (by decide +kernel)).trans (rfl)))))))))
theorem no_Scope_variable {x0 x1 x2 x3 x4 x5 x6 x7 x8 : V} : (fs_Scope x0 x1 x2 x3 x4 x5 x6 x7 x8).lookup ("variable" : Str) = none := (lk_tl (by decide +kernel)).trans ((lk_tl (by decide +kernel)).trans ((lk_tl (by decide +kernel)).trans ((lk_tl (by decide +kernel)).trans ((lk_tl (by decide +kernel)).trans ((lk_tl (by decide +kernel)).trans ((lk_tl (by decide +kernel)).trans ((lk_tl (by decide +kernel)).trans ((lk_tl (by decide +kernel)).trans (rfl)))))))))
theorem no_Scope_signature {x0 x1 x2 x3 x4 x5 x6 x7 x8 : V} : (fs_Scope x0 x1 x2 x3 x4 x5 x6 x7 x8).lookup ("signature" : Str) = none := (lk_tl (by decide +kernel)).trans ((lk_tl (by decide +kernel)).trans ((lk_tl (by decide +kernel)).trans ((lk_tl (by decide +kernel)).trans ((lk_tl (by decide +kernel)).trans ((lk_tl (by decide +kernel)).trans ((lk_tl (by decide +kernel)).trans ((lk_tl (by decide +kernel)).trans ((lk_tl (by decide +kernel)).trans (rfl)))))))))
theorem no_Scope_function {x0 x1 x2 x3 x4 x5 x6 x7 x8 : V} : (fs_Scope x0 x1 x2 x3 x4 x5 x6 x7 x8).lookup ("function" : Str) = none := (lk_tl (by decide +kernel)).trans ((lk_tl (by decide +kernel)).trans ((lk_tl (by decide +kernel)).trans ((lk_tl (by decide +kernel)).trans ((lk_tl (by decide +kernel)).trans ((lk_tl (by decide +kernel)).trans ((lk_tl (by decide +kernel)).trans ((lk_tl (by decide +kernel)).trans ((lk_tl (by decide +kernel)).trans (rfl)))))))))
theorem no_Scope_tag {x0 x1 x2 x3 x4 x5 x6 x7 x8 : V} : (fs_Scope x0 x1 x2 x3 x4 x5 x6 x7 x8).lookup ("tag" : Str) = none := (lk_tl (by decide +kernel)).trans ((lk_tl (by decide +kernel)).trans ((lk_tl (by decide +kernel)).trans ((lk_tl (by decide +kernel)).trans ((lk_tl (by decide +kernel)).trans ((lk_tl (by decide +kernel)).trans ((lk_tl (by decide +kernel)).trans ((lk_tl (by decide +kernel)).trans ((lk_tl (by decide +kernel)).trans (rfl)))))))))
theorem no_Scope_label {x0 x1 x2 x3 x4 x5 x6 x7 x8 : V} : (fs_Scope x0 x1 x2 x3 x4 x5 x6 x7 x8).lookup ("label" : Str) = none := (lk_tl (by decide +kernel)).trans ((lk_tl (by decide +kernel)).trans ((lk_tl (by decide +kernel)).trans ((lk_tl (by decide +kernel)).trans ((lk_tl (by decide +kernel)).trans ((lk_tl (by decide +kernel)).trans ((lk_tl (by decide +kernel)).trans ((lk_tl (by decide +kernel)).trans ((lk_tl (by decide +kernel)).trans (rfl)))))))))
theorem no_Scope_shape {x0 x1 x2 x3 x4 x5 x6 x7 x8 : V} : (fs_Scope x0 x1 x2 x3 x4 x5 x6 x7 x8).lookup ("shape" : Str) = none := (lk_tl (by decide +kernel)).trans ((lk_tl (by decide +kernel)).trans ((lk_tl (by decide +kernel)).trans ((lk_tl (by decide +kernel)).trans ((lk_tl (by decide +kernel)).trans ((lk_tl (by decide +kernel)).trans ((lk_tl (by decide +kernel)).trans ((lk_tl (by decide +kernel)).trans ((lk_tl (by decide +kernel)).trans (rfl)))))))))
theorem no_Scope_need_table {x0 x1 x2 x3 x4 x5 x6 x7 x8 : V} : (fs_Scope x0 x1 x2 x3 x4 x5 x6 x7 x8).lookup ("need_table" : Str) = none := (lk_tl (by decide +kernel)).trans ((lk_tl (by decide +kernel)).trans ((lk_tl (by decide +kernel)).trans ((lk_tl (by decide +kernel)).trans ((lk_tl (by decide +kernel)).trans ((lk_tl (by decide +kernel)).trans ((lk_tl (by decide +kernel)).trans ((lk_tl (by decide +kernel)).trans ((lk_tl (by decide +kernel)).trans (rfl)))))))))
theorem no_Scope_need_memory {x0 x1 x2 x3 x4 x5 x6 x7 x8 : V} : (fs_Scope x0 x1 x2 x3 x4 x5 x6 x7 x8).lookup ("need_memory" : Str) = none := (lk_tl (by decide +kernel)).trans ((lk_tl (by decide +kernel)).trans ((lk_tl (by decide +kernel)).trans ((lk_tl (by decide +kernel)).trans ((lk_tl (by decide +kernel)).trans ((lk_tl (by decide +kernel)).trans ((lk_tl (by decide +kernel)).trans ((lk_tl (by decide +kernel)).trans ((lk_tl (by decide +kernel)).trans (rfl)))))))))
theorem in_Scope_0 {x0 x1 x2 x3 x4 x5 x6 x7 x8 : V} : putF "slots" x0 ([] : List (Str × V)) = [(("slots" : Str), x0)] := pt_nl
theorem in_Scope_1 {x0 x1 x2 x3 x4 x5 x6 x7 x8 : V} : putF "results" x1 ([(("slots" : Str), x0)] : List (Str × V)) = [(("slots" : Str), x0), (("results" : Str), x1)] := pt_tl (by decide +kernel) (pt_nl)
theorem in_Scope_2 {x0 x1 x2 x3 x4 x5 x6 x7 x8 : V} : putF "labels" x2 ([(("slots" : Str), x0), (("results" : Str), x1)] : List (Str × V)) = [(("slots" : Str), x0), (("results" : Str), x1), (("labels" : Str), x2)] := pt_tl (by decide +kernel) (pt_tl (by decide +kernel) (pt_nl))
theorem in_Scope_3 {x0 x1 x2 x3 x4 x5 x6 x7 x8 : V} : putF "signatures" x3 ([(("slots" : Str), x0), (("results" : Str), x1), (("labels" : Str), x2)] : List (Str × V)) = [(("slots" : Str), x0), (("results" : Str), x1), (("labels" : Str), x2), (("signatures" : Str), x3)] := pt_tl (by decide +kernel) (pt_tl (by decide +kernel) (pt_tl (by decide +kernel) (pt_nl)))
theorem in_Scope_4 {x0 x1 x2 x3 x4 x5 x6 x7 x8 : V} : putF "function_indexes" x4 ([(("slots" : Str), x0), (("results" : Str), x1), (("labels" : Str), x2), (("signatures" : Str), x3)] : List (Str × V)) = [(("slots" : Str), x0), (("results" : Str), x1), (("labels" : Str), x2), (("signatures" : Str), x3), (("function_indexes" : Str), x4)] := pt_tl (by decide +kernel) (pt_tl (by decide +kernel) (pt_tl (by decide +kernel) (pt_tl (by decide +kernel) (pt_nl))))
theorem in_Scope_5 {x0 x1 x2 x3 x4 x5 x6 x7 x8 : V} : putF "tag_indexes" x5 ([(("slots" : Str), x0), (("results" : Str), x1), (("labels" : Str), x2), (("signatures" : Str), x3), (("function_indexes" : Str), x4)] : List (Str × V)) = [(("slots" : Str), x0), (("results" : Str), x1), (("labels" : Str), x2), (("signatures" : Str), x3), (("function_indexes" : Str), x4), (("tag_indexes" : Str), x5)] := pt_tl (by decide +kernel) (pt_tl (by decide +kernel) (pt_tl (by decide +kernel) (pt_tl (by decide +kernel) (pt_tl (by decide +kernel) (pt_nl)))))
theorem in_Scope_6 {x0 x1 x2 x3 x4 x5 x6 x7 x8 : V} : putF "heads" x6 ([(("slots" : Str), x0), (("results" : Str), x1), (("labels" : Str), x2), (("signatures" : Str), x3), (("function_indexes" : Str), x4), (("tag_indexes" : Str), x5)] : List (Str × V)) = [(("slots" : Str), x0), (("results" : Str), x1), (("labels" : Str), x2), (("signatures" : Str), x3), (("function_indexes" : Str), x4), (("tag_indexes" : Str), x5), (("heads" : Str), x6)] := pt_tl (by decide +kernel) (pt_tl (by decide +kernel) (pt_tl (by decide +kernel) (pt_tl (by decide +kernel) (pt_tl (by decide +kernel) (pt_tl (by decide +kernel) (pt_nl))))))
theorem in_Scope_7 {x0 x1 x2 x3 x4 x5 x6 x7 x8 : V} : putF "table_count" x7 ([(("slots" : Str), x0), (("results" : Str), x1), (("labels" : Str), x2), (("signatures" : Str), x3), (("function_indexes" : Str), x4), (("tag_indexes" : Str), x5), (("heads" : Str), x6)] : List (Str × V)) = [(("slots" : Str), x0), (("results" : Str), x1), (("labels" : Str), x2), (("signatures" : Str), x3), (("function_indexes" : Str), x4), (("tag_indexes" : Str), x5), (("heads" : Str), x6), (("table_count" : Str), x7)] := pt_tl (by decide +kernel) (pt_tl (by decide +kernel) (pt_tl (by decide +kernel) (pt_tl (by decide +kernel) (pt_tl (by decide +kernel) (pt_tl (by decide +kernel) (pt_tl (by decide +kernel) (pt_nl)))))))
theorem in_Scope_8 {x0 x1 x2 x3 x4 x5 x6 x7 x8 : V} : putF "memory_count" x8 ([(("slots" : Str), x0), (("results" : Str), x1), (("labels" : Str), x2), (("signatures" : Str), x3), (("function_indexes" : Str), x4), (("tag_indexes" : Str), x5), (("heads" : Str), x6), (("table_count" : Str), x7)] : List (Str × V)) = [(("slots" : Str), x0), (("results" : Str), x1), (("labels" : Str), x2), (("signatures" : Str), x3), (("function_indexes" : Str), x4), (("tag_indexes" : Str), x5), (("heads" : Str), x6), (("table_count" : Str), x7), (("memory_count" : Str), x8)] := pt_tl (by decide +kernel) (pt_tl (by decide +kernel) (pt_tl (by decide +kernel) (pt_tl (by decide +kernel) (pt_tl (by decide +kernel) (pt_tl (by decide +kernel) (pt_tl (by decide +kernel) (pt_tl (by decide +kernel) (pt_nl))))))))
/-! the attributes of an object of Level -/
def fs_Level (x0 x1 x2 : V) : List (Str × V) := [("floor", x0), ("buried", x1), ("loose", x2)]
theorem lk_Level_floor {x0 x1 x2 : V} : (fs_Level x0 x1 x2).lookup ("floor" : Str) = some x0 := lk_hd
theorem pt_Level_floor {x0 x1 x2 v : V} : putF "floor" v (fs_Level x0 x1 x2) = fs_Level v x1 x2 := pt_hd
theorem lk_Level_buried {x0 x1 x2 : V} : (fs_Level x0 x1 x2).lookup ("buried" : Str) = some x1 := (lk_tl (by decide +kernel)).trans (lk_hd)
theorem pt_Level_buried {x0 x1 x2 v : V} : putF "buried" v (fs_Level x0 x1 x2) = fs_Level x0 v x2 := pt_tl (by decide +kernel) (pt_hd)
theorem lk_Level_loose {x0 x1 x2 : V} : (fs_Level x0 x1 x2).lookup ("loose" : Str) = some x2 := (lk_tl (by decide +kernel)).trans ((lk_tl (by decide +kernel)).trans (lk_hd))
theorem pt_Level_loose {x0 x1 x2 v : V} : putF "loose" v (fs_Level x0 x1 x2) = fs_Level x0 x1 v := pt_tl (by decide +kernel) (pt_tl (by decide +kernel) (pt_hd))
theorem no_Level___init__ {x0 x1 x2 : V} : (fs_Level x0 x1 x2).lookup ("__init__" : Str) = none := (lk_tl (by decide +kernel)).trans ((lk_tl (by decide +kernel)).trans ((lk_tl (by decide +kernel)).trans (rfl)))
theorem in_Level_0 {x0 x1 x2 : V} : putF "floor" x0 ([] : List (Str × V)) = [(("floor" : Str), x0)] := pt_nl
theorem in_Level_1 {x0 x1 x2 : V} : putF "buried" x1 ([(("floor" : Str), x0)] : List (Str × V)) = [(("floor" : Str), x0), (("buried" : Str), x1)] := pt_tl (by decide +kernel) (pt_nl)
theorem in_Level_2 {x0 x1 x2 : V} : putF "loose" x2 ([(("floor" : Str), x0), (("buried" : Str), x1)] : List (Str × V)) = [(("floor" : Str), x0), (("buried" : Str), x1), (("loose" : Str), x2)] := pt_tl (by decide +kernel) (pt_tl (by decide +kernel) (pt_nl))
/-! the attributes of an object of KindStack -/
def fs_KindStack (x0 x1 : V) : List (Str × V) := [("held", x0), ("levels", x1)]
theorem lk_KindStack_held {x0 x1 : V} : (fs_KindStack x0 x1).lookup ("held" : Str) = some x0 := lk_hd
theorem pt_KindStack_held {x0 x1 v : V} : putF "held" v (fs_KindStack x0 x1) = fs_KindStack v x1 := pt_hd
theorem lk_KindStack_levels {x0 x1 : V} : (fs_KindStack x0 x1).lookup ("levels" : Str) = some x1 := (lk_tl (by decide +kernel)).trans (lk_hd)
theorem pt_KindStack_levels {x0 x1 v : V} : putF "levels" v (fs_KindStack x0 x1) = fs_KindStack x0 v := pt_tl (by decide +kernel) (pt_hd)
theorem no_KindStack___init__ {x0 x1 : V} : (fs_KindStack x0 x1).lookup ("__init__" : Str) = none := (lk_tl (by decide +kernel)).trans ((lk_tl (by decide +kernel)).trans (rfl))
theorem no_KindStack_is_dead {x0 x1 : V} : (fs_KindStack x0 x1).lookup ("is_dead" : Str) = none := (lk_tl (by decide +kernel)).trans ((lk_tl (by decide +kernel)).trans (rfl))
theorem no_KindStack_shown {x0 x1 : V} : (fs_KindStack x0 x1).lookup ("shown" : Str) = none := (lk_tl (by decide +kernel)).trans ((lk_tl (by decide +kernel)).trans (rfl))
theorem no_KindStack_put {x0 x1 : V} : (fs_KindStack x0 x1).lookup ("put" : Str) = none := (lk_tl (by decide +kernel)).trans ((lk_tl (by decide +kernel)).trans (rfl))
theorem no_KindStack_need {x0 x1 : V} : (fs_KindStack x0 x1).lookup ("need" : Str) = none := (lk_tl (by decide +kernel)).trans ((lk_tl (by decide +kernel)).trans (rfl))
theorem no_KindStack_take {x0 x1 : V} : (fs_KindStack x0 x1).lookup ("take" : Str) = none := (lk_tl (by decide +kernel)).trans ((lk_tl (by decide +kernel)).trans (rfl))
theorem no_KindStack_take_any {x0 x1 : V} : (fs_KindStack x0 x1).lookup ("take_any" : Str) = none := (lk_tl (by decide +kernel)).trans ((lk_tl (by decide +kernel)).trans (rfl))
theorem no_KindStack_loosen {x0 x1 : V} : (fs_KindStack x0 x1).lookup ("loosen" : Str) = none := (lk_tl (by decide +kernel)).trans ((lk_tl (by decide +kernel)).trans (rfl))
theorem no_KindStack_enter {x0 x1 : V} : (fs_KindStack x0 x1).lookup ("enter" : Str) = none := (lk_tl (by decide +kernel)).trans ((lk_tl (by decide +kernel)).trans (rfl))
theorem no_KindStack_leave {x0 x1 : V} : (fs_KindStack x0 x1).lookup ("leave" : Str) = none := (lk_tl (by decide +kernel)).trans ((lk_tl (by decide +kernel)).trans (rfl))
theorem in_KindStack_0 {x0 x1 : V} : putF "held" x0 ([] : List (Str × V)) = [(("held" : Str), x0)] := pt_nl
theorem in_KindStack_1 {x0 x1 : V} : putF "levels" x1 ([(("held" : Str), x0)] : List (Str × V)) = [(("held" : Str), x0), (("levels" : Str), x1)] := pt_tl (by decide +kernel) (pt_nl)
/-! the attributes of an object of Walker -/
def fs_Walker (x0 x1 x2 x3 : V) : List (Str × V) := [("scope", x0), ("stack", x1), ("seen", x2), ("reason", x3)]
theorem lk_Walker_scope {x0 x1 x2 x3 : V} : (fs_Walker x0 x1 x2 x3).lookup ("scope" : Str) = some x0 := lk_hd
theorem pt_Walker_scope {x0 x1 x2 x3 v : V} : putF "scope" v (fs_Walker x0 x1 x2 x3) = fs_Walker v x1 x2 x3 := pt_hd
theorem lk_Walker_stack {x0 x1 x2 x3 : V} : (fs_Walker x0 x1 x2 x3).lookup ("stack" : Str) = some x1 := (lk_tl (by decide +kernel)).trans (lk_hd)
theorem pt_Walker_stack {x0 x1 x2 x3 v : V} : putF "stack" v (fs_Walker x0 x1 x2 x3) = fs_Walker x0 v x2 x3 := pt_tl (by decide +kernel) (pt_hd)
theorem lk_Walker_seen {x0 x1 x2 x3 : V} : (fs_Walker x0 x1 x2 x3).lookup ("seen" : Str) = some x2 := (lk_tl (by decide +kernel)).trans ((lk_tl (by decide +kernel)).trans (lk_hd))
theorem pt_Walker_seen {x0 x1 x2 x3 v : V} : putF "seen" v (fs_Walker x0 x1 x2 x3) = fs_Walker x0 x1 v x3 := pt_tl (by decide +kernel) (pt_tl (by decide +kernel) (pt_hd))
theorem lk_Walker_reason {x0 x1 x2 x3 : V} : (fs_Walker x0 x1 x2 x3).lookup ("reason" : Str) = some x3 := (lk_tl (by decide +kernel)).trans ((lk_tl (by decide +kernel)).trans ((lk_tl (by decide +kernel)).trans (lk_hd)))
theorem pt_Walker_reason {x0 x1 x2 x3 v : V} : putF "reason" v (fs_Walker x0 x1 x2 x3) = fs_Walker x0 x1 x2 v := pt_tl (by decide +kernel) (pt_tl (by decide +kernel) (pt_tl (by decide +kernel) (pt_hd)))
theorem no_Walker___init__ {x0 x1 x2 x3 : V} : (fs_Walker x0 x1 x2 x3).lookup ("__init__" : Str) = none := (lk_tl (by decide +kernel)).trans ((lk_tl (by decide +kernel)).trans ((lk_tl (by decide +kernel)).trans ((lk_tl (by decide +kernel)).trans (rfl))))
theorem no_Walker_walk {x0 x1 x2 x3 : V} : (fs_Walker x0 x1 x2 x3).lookup ("walk" : Str) = none := (lk_tl (by decide +kernel)).trans ((lk_tl (by decide +kernel)).trans ((lk_tl (by decide +kernel)).trans ((lk_tl (by decide +kernel)).trans (rfl))))
theorem no_Walker_mark {x0 x1 x2 x3 : V} : (fs_Walker x0 x1 x2 x3).lookup ("mark" : Str) = none := (lk_tl (by decide +kernel)).trans ((lk_tl (by decide +kernel)).trans ((lk_tl (by decide +kernel)).trans ((lk_tl (by decide +kernel)).trans (rfl))))
theorem no_Walker_walk_body {x0 x1 x2 x3 : V} : (fs_Walker x0 x1 x2 x3).lookup ("walk_body" : Str) = none := (lk_tl (by decide +kernel)).trans ((lk_tl (by decide +kernel)).trans ((lk_tl (by decide +kernel)).trans ((lk_tl (by decide +kernel)).trans (rfl))))
theorem no_Walker_walk_instruction {x0 x1 x2 x3 : V} : (fs_Walker x0 x1 x2 x3).lookup ("walk_instruction" : Str) = none := (lk_tl (by decide +kernel)).trans ((lk_tl (by decide +kernel)).trans ((lk_tl (by decide +kernel)).trans ((lk_tl (by decide +kernel)).trans (rfl))))
theorem no_Walker_choose {x0 x1 x2 x3 : V} : (fs_Walker x0 x1 x2 x3).lookup ("choose" : Str) = none := (lk_tl (by decide +kernel)).trans ((lk_tl (by decide +kernel)).trans ((lk_tl (by decide +kernel)).trans ((lk_tl (by decide +kernel)).trans (rfl))))
theorem no_Walker_branch_by_table {x0 x1 x2 x3 : V} : (fs_Walker x0 x1 x2 x3).lookup ("branch_by_table" : Str) = none := (lk_tl (by decide +kernel)).trans ((lk_tl (by decide +kernel)).trans ((lk_tl (by decide +kernel)).trans ((lk_tl (by decide +kernel)).trans (rfl))))
theorem no_Walker_check_catch {x0 x1 x2 x3 : V} : (fs_Walker x0 x1 x2 x3).lookup ("check_catch" : Str) = none := (lk_tl (by decide +kernel)).trans ((lk_tl (by decide +kernel)).trans ((lk_tl (by decide +kernel)).trans ((lk_tl (by decide +kernel)).trans (rfl))))
theorem no_Walker_walk_block {x0 x1 x2 x3 : V} : (fs_Walker x0 x1 x2 x3).lookup ("walk_block" : Str) = none := (lk_tl (by decide +kernel)).trans ((lk_tl (by decide +kernel)).trans ((lk_tl (by decide +kernel)).trans ((lk_tl (by decide +kernel)).trans (rfl))))
theorem in_Walker_0 {x0 x1 x2 x3 : V} : putF "scope" x0 ([] : List (Str × V)) = [(("scope" : Str), x0)] := pt_nl
theorem in_Walker_1 {x0 x1 x2 x3 : V} : putF "stack" x1 ([(("scope" : Str), x0)] : List (Str × V)) = [(("scope" : Str), x0), (("stack" : Str), x1)] := pt_tl (by decide +kernel) (pt_nl)
theorem in_Walker_2 {x0 x1 x2 x3 : V} : putF "seen" x2 ([(("scope" : Str), x0), (("stack" : Str), x1)] : List (Str × V)) = [(("scope" : Str), x0), (("stack" : Str), x1), (("seen" : Str), x2)] := pt_tl (by decide +kernel) (pt_tl (by decide +kernel) (pt_nl))
theorem in_Walker_3 {x0 x1 x2 x3 : V} : putF "reason" x3 ([(("scope" : Str), x0), (("stack" : Str), x1), (("seen" : Str), x2)] : List (Str × V)) = [(("scope" : Str), x0), (("stack" : Str), x1), (("seen" : Str), x2), (("reason" : Str), x3)] := pt_tl (by decide +kernel) (pt_tl (by decide +kernel) (pt_tl (by decide +kernel) (pt_nl)))
def kws_Module (cs : Cs) : List (Str × V) := [("signatures", .ref cs.e_Module_signatures), ("imports", .ref cs.e_Module_imports), ("functions", .ref cs.e_Module_functions), ("tables", .ref cs.e_Module_tables), ("memories", .ref cs.e_Module_memories), ("tags", .ref cs.e_Module_tags), ("variables", .ref cs.e_Module_variables), ("exports", .ref cs.e_Module_exports), ("start", .non), ("table_segments", .ref cs.e_Module_table_segments), ("memory_segments", .ref cs.e_Module_memory_segments)]
def ms_Module (cs : Cs) : List (Str × V) := [("tables", .ref cs.e_Module_tables), ("tags", .ref cs.e_Module_tags), ("variables", .ref cs.e_Module_variables), ("exports", .ref cs.e_Module_exports), ("start", .non), ("table_segments", .ref cs.e_Module_table_segments), ("memory_segments", .ref cs.e_Module_memory_segments)]
theorem sub_Module (cs : Cs) : ∀ q ∈ ms_Module cs, q ∈ kws_Module cs := fun q hq => by
  unfold ms_Module at hq
  unfold kws_Module
  simp only [List.mem_cons, List.not_mem_nil, or_false] at hq ⊢
  rcases hq with rfl | rfl | rfl | rfl | rfl | rfl | rfl
  all_goals simp
theorem chain_Module {cs : Cs} (D : Addr) (doc pm : Value) (an : Option Addr) (cdv ct : Value) (us mv ws : List Value) (h1 : us.length = 1) (h2 : mv.length = (ms_Module cs).length) (h3 : ws.length = (["signatures", "imports", "functions", "memories"] : List Str).length) :
    KwChain D (((ms_Module cs).map (·.1)).zip mv) (bindArgs (PySem.W.fnOf "__init__" "Module.__init__" (defArgs s_Module___init__) (defBody s_Module___init__) (defScope s_Module___init__) .none (.ref D) doc pm an cdv ct) ⟨us, (["signatures", "imports", "functions", "memories"] : List Str).zip ws⟩) ((["self", "signatures", "imports", "functions", "tables", "memories", "tags", "variables", "exports", "start", "table_segments", "memory_segments"] : List Str).zip (us ++ mixK [true, true, true, false, true, false, false, false, false, false, false] ws mv)) := by
  match us, mv, ws, h1, h2, h3 with
  | [u0], [m0, m1, m2, m3, m4, m5, m6], [w0, w1, w2, w3], _, _, _ => exact ⟨_, _, _, _, _, _, rfl, rfl, ⟨_, _, _, _, _, _, rfl, rfl, ⟨_, _, _, _, _, _, rfl, rfl, ⟨_, _, _, _, _, _, rfl, rfl, ⟨_, _, _, _, _, _, rfl, rfl, ⟨_, _, _, _, _, _, rfl, rfl, ⟨_, _, _, _, _, _, rfl, rfl, rfl⟩⟩⟩⟩⟩⟩⟩
/-- what the top leaves: built-in names that nothing binds, own classes -/
structure Tp (w : World) (K : PySem.W.Frag) (mg : Str → Option Value) (cs : Cs) : Prop where
  m_abs : mg "abs" = none
  m_enumerate : mg "enumerate" = none
  m_int : mg "int" = none
  m_len : mg "len" = none
  m_list : mg "list" = none
  m_min : mg "min" = none
  m_range : mg "range" = none
  m_tuple : mg "tuple" = none
  m_zip : mg "zip" = none
  g_HostError : mg "HostError" = some (.ref cs.C_HostError)
  g_CodeFault : mg "CodeFault" = some (.ref cs.C_CodeFault)
  e_CodeFault : ExK K mg "CodeFault" cs.C_CodeFault
  iC_CodeFault : PySem.W.findIn K (.ref cs.C_CodeFault) "__init__" = some (some (.ref cs.I_CodeFault))
  tI_CodeFault : PySem.W.typeIn K (.ref cs.I_CodeFault) = some (.type "function")
  F_CodeFault : L2.Fun K "__init__" "CodeFault.__init__" i_CodeFault cs.I_CodeFault cs.D_CodeFault
  b_CodeFault : Binds K cs.D_CodeFault ["self", "reason"] []
  no_CodeFault_reason : PySem.W.findIn K (.ref cs.C_CodeFault) "reason" = some none
  kit_CodeFault_HostError : PySem.W.kitOne K (.ref cs.C_CodeFault) (.ref cs.C_HostError) = some true
  exm_CodeFault_HostError : PySem.W.exmOne K (.ref cs.C_CodeFault) (.ref cs.C_HostError) = some true
  kit_CodeFault_CodeFault : PySem.W.kitOne K (.ref cs.C_CodeFault) (.ref cs.C_CodeFault) = some true
  exm_CodeFault_CodeFault : PySem.W.exmOne K (.ref cs.C_CodeFault) (.ref cs.C_CodeFault) = some true
  kit_CodeFault_VE : PySem.W.kitOne K (.ref cs.C_CodeFault) (.type "ValueError") = some true
  g_LISTS : mg "LISTS" = some (.ref cs.t_LISTS)
  d_LISTS : DicV K w cs.t_LISTS (v_LISTS cs)
  g_BLOCKS : mg "BLOCKS" = some (.ref cs.t_BLOCKS)
  d_BLOCKS : TupS K cs.t_BLOCKS v_BLOCKS
  g_ACCESS_BITS : mg "ACCESS_BITS" = some (.ref cs.t_ACCESS_BITS)
  d_ACCESS_BITS : DicV K w cs.t_ACCESS_BITS (v_ACCESS_BITS cs)
  g_MOST_EXPONENTS : mg "MOST_EXPONENTS" = some (.ref cs.t_MOST_EXPONENTS)
  d_MOST_EXPONENTS : DicI K cs.t_MOST_EXPONENTS (v_MOST_EXPONENTS cs)
  g_RULES : mg "RULES" = some (.ref cs.t_RULES)
  d_RULES : DicV K w cs.t_RULES (v_RULES cs)
  g_MEMORY_EFFECTS : mg "MEMORY_EFFECTS" = some (.ref cs.t_MEMORY_EFFECTS)
  d_MEMORY_EFFECTS : DicV K w cs.t_MEMORY_EFFECTS (v_MEMORY_EFFECTS cs)
  wd_MEMORY_EFFECTS_0 : ∀ H : Hp, Dt K H (.ref cs.q_MEMORY_EFFECTS_0) (.tuple [(.tuple []), (.tuple [(.str "i32")])])
  wd_MEMORY_EFFECTS_1 : ∀ H : Hp, Dt K H (.ref cs.q_MEMORY_EFFECTS_1) (.tuple [(.tuple [(.str "i32")]), (.tuple [(.str "i32")])])
  wd_MEMORY_EFFECTS_2 : ∀ H : Hp, Dt K H (.ref cs.q_MEMORY_EFFECTS_2) (.tuple [(.tuple [(.str "i32"), (.str "i32"), (.str "i32")]), (.tuple [])])
  wd_MEMORY_EFFECTS_3 : ∀ H : Hp, Dt K H (.ref cs.q_MEMORY_EFFECTS_3) (.tuple [(.tuple [(.str "i32"), (.str "i32"), (.str "i32")]), (.tuple [])])
  g_PLAIN_EFFECTS : mg "PLAIN_EFFECTS" = some (.ref cs.t_PLAIN_EFFECTS)
  d_PLAIN_EFFECTS : DicV K w cs.t_PLAIN_EFFECTS (v_PLAIN_EFFECTS cs)
  wd_PLAIN_EFFECTS_0 : ∀ H : Hp, Dt K H (.ref cs.q_PLAIN_EFFECTS_0) (.tuple [(.tuple []), (.tuple [])])
  wd_PLAIN_EFFECTS_1 : ∀ H : Hp, Dt K H (.ref cs.q_PLAIN_EFFECTS_1) (.tuple [(.tuple []), (.tuple [])])
  wd_PLAIN_EFFECTS_2 : ∀ H : Hp, Dt K H (.ref cs.q_PLAIN_EFFECTS_2) (.tuple [(.tuple [(.none)]), (.tuple [])])
  wd_PLAIN_EFFECTS_3 : ∀ H : Hp, Dt K H (.ref cs.q_PLAIN_EFFECTS_3) (.tuple [(.tuple []), (.tuple [(.str "i32")])])
  wd_PLAIN_EFFECTS_4 : ∀ H : Hp, Dt K H (.ref cs.q_PLAIN_EFFECTS_4) (.tuple [(.tuple []), (.tuple [(.str "i64")])])
  g_LOOSENING : mg "LOOSENING" = some (.ref cs.t_LOOSENING)
  d_LOOSENING : TupS K cs.t_LOOSENING v_LOOSENING
  g_UNKNOWN : mg "UNKNOWN" = some (.ref cs.t_UNKNOWN)
  d_UNKNOWN : DicV K w cs.t_UNKNOWN (v_UNKNOWN cs)
  i_MOST_PAGES : ∃ t, mg "MOST_PAGES" = some (.int 65536 t)
  g_Module : mg "Module" = some (.ref cs.C_Module)
  cl_Module : Cls K cs.C_Module
  n_Module_signatures : NoAttr K cs.C_Module "signatures"
  n_Module_imports : NoAttr K cs.C_Module "imports"
  n_Module_functions : NoAttr K cs.C_Module "functions"
  n_Module_tables : NoAttr K cs.C_Module "tables"
  n_Module_memories : NoAttr K cs.C_Module "memories"
  n_Module_tags : NoAttr K cs.C_Module "tags"
  n_Module_variables : NoAttr K cs.C_Module "variables"
  n_Module_exports : NoAttr K cs.C_Module "exports"
  n_Module_start : NoAttr K cs.C_Module "start"
  n_Module_table_segments : NoAttr K cs.C_Module "table_segments"
  n_Module_memory_segments : NoAttr K cs.C_Module "memory_segments"
  q_Module_signatures : EmpT K cs.e_Module_signatures
  q_Module_imports : EmpT K cs.e_Module_imports
  q_Module_functions : EmpT K cs.e_Module_functions
  q_Module_tables : EmpT K cs.e_Module_tables
  q_Module_memories : EmpT K cs.e_Module_memories
  q_Module_tags : EmpT K cs.e_Module_tags
  q_Module_variables : EmpT K cs.e_Module_variables
  q_Module_exports : EmpT K cs.e_Module_exports
  q_Module_table_segments : EmpT K cs.e_Module_table_segments
  q_Module_memory_segments : EmpT K cs.e_Module_memory_segments
  g_Scope : mg "Scope" = some (.ref cs.C_Scope)
  cl_Scope : Cls K cs.C_Scope
  n_Scope_slots : NoAttr K cs.C_Scope "slots"
  n_Scope_results : NoAttr K cs.C_Scope "results"
  n_Scope_labels : NoAttr K cs.C_Scope "labels"
  n_Scope_signatures : NoAttr K cs.C_Scope "signatures"
  n_Scope_function_indexes : NoAttr K cs.C_Scope "function_indexes"
  n_Scope_tag_indexes : NoAttr K cs.C_Scope "tag_indexes"
  n_Scope_heads : NoAttr K cs.C_Scope "heads"
  n_Scope_table_count : NoAttr K cs.C_Scope "table_count"
  n_Scope_memory_count : NoAttr K cs.C_Scope "memory_count"
  g_Level : mg "Level" = some (.ref cs.C_Level)
  cl_Level : Cls K cs.C_Level
  n_Level_floor : NoAttr K cs.C_Level "floor"
  n_Level_buried : NoAttr K cs.C_Level "buried"
  n_Level_loose : NoAttr K cs.C_Level "loose"
  g_KindStack : mg "KindStack" = some (.ref cs.C_KindStack)
  cl_KindStack : Cls K cs.C_KindStack
  n_KindStack_held : NoAttr K cs.C_KindStack "held"
  n_KindStack_levels : NoAttr K cs.C_KindStack "levels"
  g_Walker : mg "Walker" = some (.ref cs.C_Walker)
  cl_Walker : Cls K cs.C_Walker
  n_Walker_scope : NoAttr K cs.C_Walker "scope"
  n_Walker_stack : NoAttr K cs.C_Walker "stack"
  n_Walker_seen : NoAttr K cs.C_Walker "seen"
  n_Walker_reason : NoAttr K cs.C_Walker "reason"
  h_import_reason : mg "import_reason" = some (.ref cs.f_import_reason)
  h_function_reason : mg "function_reason" = some (.ref cs.f_function_reason)
  h_table_reason : mg "table_reason" = some (.ref cs.f_table_reason)
  h_memory_reason : mg "memory_reason" = some (.ref cs.f_memory_reason)
  h_tag_reason : mg "tag_reason" = some (.ref cs.f_tag_reason)
  h_global_reason : mg "global_reason" = some (.ref cs.f_global_reason)
  h_table_segment_reason : mg "table_segment_reason" = some (.ref cs.f_table_segment_reason)
  h_memory_segment_reason : mg "memory_segment_reason" = some (.ref cs.f_memory_segment_reason)
  h_start_reason : mg "start_reason" = some (.ref cs.f_start_reason)
  h_function_signatures : mg "function_signatures" = some (.ref cs.f_function_signatures)
  h_table_limits : mg "table_limits" = some (.ref cs.f_table_limits)
  h_memory_limits : mg "memory_limits" = some (.ref cs.f_memory_limits)
  h_global_heads : mg "global_heads" = some (.ref cs.f_global_heads)
  h_tag_signatures : mg "tag_signatures" = some (.ref cs.f_tag_signatures)
  h_local_get : mg "local_get" = some (.ref cs.f_local_get)
  h_local_set : mg "local_set" = some (.ref cs.f_local_set)
  h_local_tee : mg "local_tee" = some (.ref cs.f_local_tee)
  h_global_get : mg "global_get" = some (.ref cs.f_global_get)
  h_global_set : mg "global_set" = some (.ref cs.f_global_set)
  h_br : mg "br" = some (.ref cs.f_br)
  h_br_if : mg "br_if" = some (.ref cs.f_br_if)
  h_return_effect : mg "return_effect" = some (.ref cs.f_return_effect)
  h_call : mg "call" = some (.ref cs.f_call)
  h_call_indirect : mg "call_indirect" = some (.ref cs.f_call_indirect)
  h_throw : mg "throw" = some (.ref cs.f_throw)
theorem in_CodeFault {P : Program} {w : World} {K : PySem.W.Frag} {mg : Str → Option Value} {base : Heap} {cs : Cs} (T : Tp w K mg cs) : FnOk P w K mg base CX0 1 cs.I_CodeFault cs.D_CodeFault ["self", "reason"] (spI1 K cs.C_CodeFault "reason") :=
  init1 T.F_CodeFault sci_CodeFault T.e_CodeFault.T T.no_CodeFault_reason rfl (.inl rfl) (.inl rfl) (by decide) (by decide)
/-! ### t[::-1] of a tuple; a loop over the turned copy of a list or a tuple -/
theorem rv_adj (n : Nat) : Builtin.Slice.sliceAdjust none none (-1) (n : Int) = ((n : Int) - 1, -1) := by
  unfold Builtin.Slice.sliceAdjust
  rfl
theorem rv_places (n : Nat) : Builtin.Slice.slicePlaces ((n : Int) - 1) (-1) (-1) = n := by
  unfold Builtin.Slice.slicePlaces
  rw [if_neg (by omega)]
  by_cases h : (n : Int) - 1 > -1
  · rw [if_pos h, show (-(-1) : Int) = 1 from rfl, Int.ediv_one]; omega
  · rw [if_neg h]; show 0 = n; omega
theorem fm_congr {α β : Type} {f g : α → Option β} : ∀ {l : List α}, (∀ m ∈ l, f m = g m) → l.filterMap f = l.filterMap g
  | [], _ => rfl
  | a :: r, h => by
    rw [List.filterMap_cons, List.filterMap_cons, h a (List.mem_cons_self ..), fm_congr fun m hm => h m (List.mem_cons_of_mem _ hm)]
theorem rv_pick (xs : Array Value) : ((List.range xs.size).filterMap fun (m : Nat) => xs[((xs.size : Int) - 1 + (m : Int) * (-1)).toNat]?).toArray = xs.toList.reverse.toArray := by
  congr 1
  have e : ∀ m ∈ List.range xs.size, (fun (m : Nat) => xs[((xs.size : Int) - 1 + (m : Int) * (-1)).toNat]?) m = (fun (m : Nat) => xs[xs.size - 1 - m]?) m := by
    intro m hm
    have h := List.mem_range.mp hm
    have : ((xs.size : Int) - 1 + (m : Int) * (-1)).toNat = xs.size - 1 - m := by omega
    show xs[_]? = xs[_]?
    rw [this]
  rw [fm_congr e, ← PySem.W.krv_all, ← List.filterMap_reverse, ← PySem.W.krv_range, List.filterMap_map]
  rfl
section
variable {P : Program} {w : World} {A : Around} {E : Value → Shared → Prop} {s : Shared}
theorem rv_applied {sl : Addr} {u : Tok} {n : Nat} {Q : Int × Int × Nat → Shared → Prop} (hs : s.heap.IsSliceOf sl .none .none (.int (-1) u)) (h : Q ((n : Int) - 1, -1, n) s) :
    wpAny (model P w) A (Builtin.Slice.sliceApplied (.ref sl) (pure (n : Int))) Q E s := by
  obtain ⟨o, ho, hc, hd⟩ := hs
  unfold Builtin.Slice.sliceApplied Builtin.Slice.sliceFields
  refine wpAny_bind (wpAny_bind (wpAny_field ho hd (x := Value.none) rfl (wpAny_bind (wpAny_field ho hd (x := Value.none) rfl (wpAny_bind (wpAny_field ho hd (x := .int (-1) u) rfl (wpAny_pure ?_)))))))
  refine wpAny_bind (HT.slicePart_ (.int (-1) u) ?_)
  show wpAny _ _ (if ((-1 : Int) == 0) = true then _ else _) _ _ s
  rw [if_neg (by decide)]
  refine wpAny_bind (HT.slicePart_ .none (wpAny_bind (HT.slicePart_ .none (wpAny_bind (wpAny_pure ?_)))))
  show wpAny _ _ (match Builtin.Slice.sliceAdjust none none (-1) (n : Int) with | (lo, hi) => pure (lo, (-1 : Int), Builtin.Slice.slicePlaces lo hi (-1))) _ _ s
  rw [rv_adj]
  show wpAny _ _ (pure ((n : Int) - 1, (-1 : Int), Builtin.Slice.slicePlaces ((n : Int) - 1) (-1) (-1))) _ _ s
  rw [rv_places]
  exact wpAny_pure h
theorem rv_getItem {t sl : Addr} {xs : Array Value} {u : Tok} {Q : Value → Shared → Prop} (ht : IsTup s.heap t xs) (hs : s.heap.IsSliceOf sl .none .none (.int (-1) u))
    (h : Q (.ref s.heap.objs.size) { s with heap := s.heap.push { cls := .type "tuple", data := .seq xs.toList.reverse.toArray } }) (hz : xs.size ≤ sizeLine) :
    wpAny (model P w) A (getItem (.ref t) (.ref sl)) Q E s := by
  have hk : sizeOk (.seq xs.toList.reverse.toArray) := by
    show xs.toList.reverse.toArray.size ≤ sizeLine
    rw [List.size_toArray, List.length_reverse, Array.length_toList]
    exact hz
  have hT : s.TypeIs (.ref sl) "slice" := by obtain ⟨o, ho, hc, _⟩ := hs; exact ⟨o, ho, hc⟩
  unfold getItem
  try with_reducible refine wpAny_holding ?_
  try refine wpAny_bind (wpAny_pure ?_)
  refine wpAny_bind (wpAny_sequenceKey ht.typeIs (by decide) ?_)
  refine wpAny_bind (wpAny_callSpecial?_slot (name := Str.ofString "__getitem__") ht.typeIs PyProof.Rows.slot_tuple_getitem
    (wpAny_call_entry PyProof.Rows.slot_tuple_getitem ht.typeIs entry_tuple_getitem ?_ (args_tuple_getitem _ _)))
  show wpAny _ _ (Builtin.Tuple.tupleItemsOf (.ref t) >>= _) _ _ s
  refine wpAny_bind (tupleItemsOf_ ht ?_)
  refine wpAny_bind (wpAny_typeOf hT ?_)
  rw [if_pos (by decide)]
  refine wpAny_bind (rv_applied hs ?_)
  have hn : ¬ (((xs.size : Int) - 1 == 0 && (-1 : Int) == 1 && xs.size == xs.size) = true) := by
    rw [show ((-1 : Int) == 1) = false from rfl, Bool.and_false, Bool.false_and]; decide
  show wpAny _ _ (if ((xs.size : Int) - 1 == 0 && (-1 : Int) == 1 && xs.size == xs.size) = true then _ else _) _ _ s
  rw [if_neg hn, rv_pick]
  first
    | exact wpAny_bind (m := Builtin.Tuple.tupleExact _) (wpAny_newObj_type (wpAny_pure ⟨_, rfl, wpAny_pure h⟩) hk)
    | exact wpAny_bind (m := Builtin.Tuple.tupleExact _) (wpAny_newObj_type (wpAny_bind (wpAny_pure (wpAny_pure ⟨_, rfl, wpAny_pure h⟩))) hk)
    | exact wpAny_bind (wpAny_bind (m := Builtin.Tuple.tupleExact _) (wpAny_newObj_type (wpAny_pure (wpAny_pure ⟨_, rfl, wpAny_pure h⟩)) hk))
    | exact wpAny_bind (wpAny_bind (m := Builtin.Tuple.tupleExact _) (wpAny_newObj_type (wpAny_pure ⟨_, rfl, wpAny_pure h⟩) hk))
end
section
variable {X : Cx}
def tRevT (K : PySem.W.Frag) (te : TE) : TE := fun σ H Q => te σ H fun x H1 => ∃ a xs, x = .ref a ∧ SqT K H1 a xs ∧ ∀ p, H1 p = none → Q (.ref p) (upd H1 p (.tup xs.reverse))
theorem pe_revT {e : Expr} {te : TE} {k : Nat} {p1 p2 p3 pos : Pos} (he : PE X e te) : PE X (.Subscript e (.Slice none none (some (.UnaryOp .USub (.Constant (.int 1) k p1) p2)) p3) pos) (tRevT X.K te) := by
  refine ⟨fun pins s σ H Q I h => Subscript_ (thn (he.run pins s σ H _ I h) fun v s1 ⟨x, H1, I1, r1, q1⟩ => ?_)⟩
  obtain ⟨a, xs, rfl, hx, q⟩ := q1
  cases r1
  have hm : PO X (some (.UnaryOp .USub (.Constant (.int 1) k p1) p2)) (tPart (tUn (rU fun i => .int (-i)) (tC (.int 1)))) := po_some (pe_un un_neg pe_int)
  refine wpAny_Slice (thn (po_none.run pins s1 σ H1 (fun o H2 => o = none ∧ H2 = H1) I1 ⟨rfl, rfl⟩) ?_)
  rintro vl s2 ⟨_, _, I2, pl, rfl, rfl⟩
  refine thn (po_none.run pins s2 σ _ (fun o H3 => o = none ∧ H3 = _) I2 ⟨rfl, rfl⟩) ?_
  rintro vu s3 ⟨_, _, I3, pu, rfl, rfl⟩
  refine thn (hm.run pins s3 σ _ (fun o H4 => o = some (-1) ∧ H4 = _) I3 ⟨1, rfl, -1, rfl, rfl, rfl⟩) ?_
  rintro vs s4 ⟨_, H4, I4, ps, rfl, rfl⟩
  cases pl
  cases pu
  cases ps with
  | int _ u =>
    have I5 : Inv X pins σ H4 { s4 with heap := s4.heap.push { cls := .type "slice", data := .fields #[.none, .none, .int (-1) u] } } := I4.kept (t' := s4.toks) fun b ob z => Heap.get?_push_of_some _ z
    obtain ⟨its, r, ht, hz⟩ := I5.tuple hx
    show wpAny (model X.prog X.w) X.A (subscriptTail e (.Slice none none (some (.UnaryOp .USub (.Constant (.int 1) k p1) p2)) p3) (.ref a) (.ref s4.heap.objs.size)) (EP X pins σ Q) X.xe { s4 with heap := s4.heap.push { cls := .type "slice", data := .fields #[.none, .none, .int (-1) u] } }
    refine tail_any (ops := [.ref a, .ref s4.heap.objs.size]) ht.typeIs (PyProof.Rows.slot_tuple_getitem.lookup) ?_ (by with_unfolding_all rfl)
    refine rv_getItem ht (Heap.IsSliceOf.new _ .none .none (.int (-1) u)) ?_ (by rw [List.size_toArray]; exact r.length ▸ hz)
    exact ⟨.ref _, _, I5.laid (t' := s4.toks) (o := .tup xs.reverse) (fun b ob z => Heap.get?_push_of_some _ z) (Nat.le_refl _) ⟨by rw [List.length_reverse]; exact hz, _, r.reverse, IsTup.new _ _⟩, rfl, q _ (I5.hok.fresh (Nat.le_refl _))⟩
theorem pi_or {tg e : Expr} {u t : TI} (h1 : PI X tg e u) (h2 : PI X tg e t) : PI X tg e (fun σ H R => u σ H R ∨ t σ H R) :=
  ⟨fun pins s σ H R I h => h.elim (h1.run pins s σ H R I) (h2.run pins s σ H R I)⟩
end
theorem for_tupD {K : PySem.W.Frag} {a : Addr} {xs : List V} {g : TG} {tb : TS} {nx : L2.St → Hp → Prop} {rt : VK} {σ : L2.St} {H : Hp} (Pv : Nat → L2.St → Hp → Prop) (h0 : Pv 0 σ H) (hl : ∀ i σ H, i ≤ xs.length → Pv i σ H → SqT K H a xs)
    (hs : ∀ i x σ H, xs[i]? = some x → Pv i σ H → g x σ H fun σ2 H2 => tb { nx := Pv (i + 1), rt := rt, bk := nx, ct := Pv (i + 1) } σ2 H2) (hd : ∀ σ H, Pv xs.length σ H → nx σ H) :
    ∃ W : Nat → Nat → L2.St → Hp → Prop, (∃ m, W 0 m σ H) ∧ ∀ i m σ H, W i m σ H → ((Itt K a).stop i H ∧ nx σ H) ∨ ((Itt K a).go i H ∧ ∃ N : L2.St → Hp → Prop, (∀ σ' H', N σ' H' → ∃ m', m' < m ∧ W (i + 1) m' σ' H') ∧
      ∀ x H', (Itt K a).yld i H x H' → g x σ H' fun σ2 H2 => tb { nx := N, rt := rt, bk := nx, ct := N } σ2 H2) := for_tup (D := { nx := nx, rt := rt }) Pv h0 hl hs hd

/-! ### lists of ints that are the same -/
theorem dp_all {K : PySem.W.Frag} {H : Hp} : ∀ ns : List Int, DpAll K H (ns.map V.int) (ns.map PyData.int)
  | [] => .nil
  | _ :: r => .cons (.int _) (dp_all r)
theorem canlay_ints : ∀ ns : List Int, PyData.canLayAll0 (ns.map PyData.int) = true
  | [] => rfl
  | _ :: r => by
    show PyData.canLayAll0 (PyData.int _ :: r.map PyData.int) = true
    simp only [PyData.canLayAll0, PyData.canLay0, canlay_ints r, Bool.and_self]
theorem depth_ints : ∀ ns : List Int, PyData.depthAll (ns.map PyData.int) ≤ 63
  | [] => by simp [PyData.depthAll]
  | _ :: r => by
    have h := depth_ints r
    simp [PyData.depthAll, PyData.depth] at h ⊢
    exact h
theorem shaped_ints (ns : List Int) : SeqAt.shaped (.list (ns.map PyData.int)) = true := by
  unfold SeqAt.shaped
  rw [Bool.and_eq_true]
  refine ⟨?_, decide_eq_true ?_⟩
  · simp only [PyData.canLay0, canlay_ints]
  · have h := depth_ints ns
    simp only [PyData.depth] at h ⊢
    omega
theorem eqD_same {K : PySem.W.Frag} {H : Hp} {x y : V} {d : PyData} {Q : VK} (h1 : Dp K H x d) (h2 : Dp K H y d) (s : SeqAt.shaped d = true) (q : Q (.bl true) H) : rEqD K x y H Q :=
  ⟨d, d, h1, h2, s, s, by rw [SeqAt.eqv_refl d (SeqAt.canLay_of_shaped s)]; exact q⟩
theorem neD_same {K : PySem.W.Frag} {H : Hp} {x y : V} {d : PyData} {Q : VK} (h1 : Dp K H x d) (h2 : Dp K H y d) (s : SeqAt.shaped d = true) (q : Q (.bl false) H) : rNeD K x y H Q :=
  ⟨d, d, h1, h2, s, s, by rw [SeqAt.eqv_refl d (SeqAt.canLay_of_shaped s)]; exact q⟩
theorem dp_ints {K : PySem.W.Frag} {H : Hp} {a : Addr} {ns : List Int} (h : SqL K H a (ns.map V.int)) : Dp K H (.ref a) (.list (ns.map PyData.int)) := .lst h (dp_all ns)
theorem eqv_ints (ns : List Int) : PyData.eqv (.list (ns.map PyData.int)) (.list (ns.map PyData.int)) = true := SeqAt.eqv_refl _ (SeqAt.canLay_of_shaped (shaped_ints ns))

/-! ### ifs and tests whose answer is known -/
theorem ifNe {x y : Int} {A B : Prop} (e : x = y) (h : B) : if (!decide (V.int x = V.int y)) = true then A else B := by
  subst e
  rw [decide_eq_true rfl]
  exact h
theorem ifNeN {x y : Int} {A B : Prop} (e : ¬ x = y) (h : A) : if (!decide (V.int x = V.int y)) = true then A else B := by
  rw [decide_eq_false (fun z => e (V.int.inj z))]
  exact h
theorem eqT {x y : Int} (e : x = y) : decide (V.int x = V.int y) = true := decide_eq_true (congrArg V.int e)
theorem qT {x y : Int} {Q : VK} {H : Hp} (e : x = y) (h : Q (.bl true) H) : Q (.bl (decide (V.int x = V.int y))) H := by rw [eqT e]; exact h
theorem orV {t u : TE} {σ : L2.St} {H : Hp} {Q : VK} (b1 b2 : Bool) (h1 : ∀ Q, (∀ H', Same H H' → Q (.bl b1) H') → t σ H Q) (h2 : ∀ H' Q, Q (.bl b2) H' → u σ H' Q) (q : ∀ H', Same H H' → Q (.bl (b1 || b2)) H') : tOrV t u σ H Q := by
  refine h1 _ fun H' s => ⟨b1, rfl, ?_⟩
  cases b1 with
  | true => rw [if_pos rfl]; exact q _ s
  | false => rw [if_neg (by decide)]; exact h2 _ _ (q _ s)
theorem andV {t u : TE} {σ : L2.St} {H : Hp} {Q : VK} (b1 b2 : Bool) (h1 : ∀ Q, Q (.bl b1) H → t σ H Q) (h2 : ∀ Q, Q (.bl b2) H → u σ H Q) (q : Q (.bl (b1 && b2)) H) : tAndV t u σ H Q := by
  refine h1 _ ⟨b1, rfl, ?_⟩
  cases b1 with
  | true => rw [if_pos rfl]; exact h2 _ q
  | false => rw [if_neg (by decide)]; exact q
theorem orF {t u : TT} {σ : L2.St} {H : Hp} {Q : Bool → Hp → Prop} (h1 : ∀ Q, (∀ H', Same H H' → Q false H') → t σ H Q) (h2 : ∀ H', Same H H' → ∀ Q, (∀ H'', Same H' H'' → Q false H'') → u σ H' Q) (q : ∀ H', Same H H' → Q false H') : tOr t u σ H Q := by
  refine h1 _ fun H' s => ?_
  rw [if_neg (by decide)]
  exact h2 _ s _ fun H'' s' => q _ (s.trans s')
theorem neF {x y : Int} {Q : Bool → Hp → Prop} {H : Hp} (e : x = y) (h : Q false H) : Q (!decide (V.int x = V.int y)) H := by rw [eqT e]; exact h
theorem ifEq {x y : Int} {A B : Prop} (e : x = y) (h : A) : if decide (V.int x = V.int y) = true then A else B := by rw [eqT e]; exact h
theorem ifEqN {x y : Int} {A B : Prop} (e : ¬ x = y) (h : B) : if decide (V.int x = V.int y) = true then A else B := by
  rw [decide_eq_false (fun z => e (V.int.inj z))]; exact h
theorem ifS {x y : Str} {A B : Prop} (e : x = y) (h : A) : if decide (V.str x = V.str y) = true then A else B := by rw [if_pos (decide_eq_true (congrArg V.str e))]; exact h
theorem ifSN {x y : Str} {A B : Prop} (e : ¬ x = y) (h : B) : if decide (V.str x = V.str y) = true then A else B := by
  rw [if_neg (fun z => e (V.str.inj (of_decide_eq_true z)))]; exact h
theorem ifNeSN {x y : Str} {A B : Prop} (e : ¬ x = y) (h : A) : if (!decide (V.str x = V.str y)) = true then A else B := by
  rw [decide_eq_false (fun z => e (V.str.inj z))]; exact h
theorem ifNeS {x y : Str} {A B : Prop} (e : x = y) (h : B) : if (!decide (V.str x = V.str y)) = true then A else B := by
  subst e
  rw [decide_eq_true rfl]
  exact h
theorem qTS {x y : Str} {Q : VK} {H : Hp} (e : x = y) (h : Q (.bl true) H) : Q (.bl (decide (V.str x = V.str y))) H := by rw [decide_eq_true (congrArg V.str e)]; exact h
theorem call_isiS {X : Cx} {a : Addr} {ps : List (Addr × Obj)} : CallR (X.suite a ps) (.builtin "isinstance") (rIsi X.K) := call_isi
theorem for_tupE {K : PySem.W.Frag} {a : Addr} {xs : List V} {g : TG} {tb : TS} {nx : L2.St → Hp → Prop} {rt : VK} {σ : L2.St} {H : Hp} (Pv : Nat → L2.St → Hp → Prop) (h0 : Pv 0 σ H) (hl : ∀ i σ H, i ≤ xs.length → Pv i σ H → SqT K H a xs)
    (hs : ∀ i x σ H, xs[i]? = some x → Pv i σ H → g x σ H fun σ2 H2 => tb { nx := Pv (i + 1), rt := rt, bk := nx, ct := Pv (i + 1) } σ2 H2) (hd : ∀ σ H, Pv xs.length σ H → nx σ H) :
    ∃ W : Nat → Nat → L2.St → Hp → Prop, (∃ m, W 0 m σ H) ∧ ∀ i m σ H, W i m σ H → ((Itt K a).stop i H ∧ nx σ H) ∨ ((Itt K a).go i H ∧ ∃ N : L2.St → Hp → Prop, (∀ σ' H', N σ' H' → ∃ m', m' < m ∧ W (i + 1) m' σ' H') ∧
      ∀ x H', (Itt K a).yld i H x H' → g x σ H' fun σ2 H2 => tb { nx := N, rt := rt, bk := nx, ct := N } σ2 H2) := for_tup (D := { nx := nx, rt := rt }) Pv h0 hl hs hd
theorem isi_bool {K : PySem.W.Frag} {H : Hp} {b : Bool} {Q : VK} (q : Q (.bl true) H) : rIsi K [.bl b, .ty "bool"] H Q := ⟨.bl b, .ty "bool", _, _, true, rfl, .ty _, .base (.bl _), kit_ty (by decide +kernel), q⟩
theorem ne_of_nd {x y : Int} (h : (!decide (V.int x = V.int y)) = true) : ¬ x = y := fun e => by
  rw [decide_eq_true (congrArg V.int e)] at h; cases h
theorem eq_of_nd {x y : Int} (h : ¬ (!decide (V.int x = V.int y)) = true) : x = y := by
  by_cases e : x = y
  · exact e
  · exact absurd (by rw [decide_eq_false (fun z => e (V.int.inj z))]; rfl) h
theorem eq_of_d {x y : Int} (h : decide (V.int x = V.int y) = true) : x = y := V.int.inj (of_decide_eq_true h)
theorem ne_of_d {x y : Int} (h : ¬ decide (V.int x = V.int y) = true) : ¬ x = y := fun e => h (decide_eq_true (congrArg V.int e))
theorem sign_of (d : Nat) : -1 ≤ ([1, -1] : List Int).getD d 0 ∧ ([1, -1] : List Int).getD d 0 ≤ 1 := by
  match d with
  | 0 => decide
  | 1 => decide
  | _ + 2 => exact (by decide : (-1 : Int) ≤ 0 ∧ (0 : Int) ≤ 1)
section
variable {X : Cx} {s : Shared} {H : Hp} {sc : Scope} {en : Env} {fp : List Addr}
theorem ix_listB : IxR (X.blk s H sc en fp) (L2.rIxL X.K) := ix_list
theorem ix_tupB : IxR (X.blk s H sc en fp) (L2.rIxT X.K) := ix_tup
theorem call_isiB : CallR (X.blk s H sc en fp) (.builtin "isinstance") (rIsi X.K) := call_isi
end
theorem andIf {t : TE} {σ : L2.St} {H : Hp} {Q : VK} {b1 b2 : Bool} (h : ∀ Q', Q' (.bl b2) H → t σ H Q') (q : Q (.bl (b1 && b2)) H) : if b1 = true then t σ H Q else Q (.bl false) H := by
  cases b1 with
  | true => exact h _ q
  | false => exact q
theorem op_eqDS {X : Cx} {a : Addr} {ps : List (Addr × Obj)} (hu : X.A.units + 64 < cLine) : OpR (X.suite a ps) (compareOp .Eq) (rEqD X.K) := op_eqD (X := X.suite a ps) hu
theorem isi_of {K : PySem.W.Frag} {H : Hp} {x : V} {n : String} {t : Value} {b : Bool} {Q : VK} (h : TyX K H x t) (k : PySem.W.kitOne K t (.type n) = some b) (q : Q (.bl b) H) : rIsi K [x, .ty n] H Q := ⟨x, .ty n, t, _, b, rfl, .ty _, h, k, q⟩

/-! ### lists of texts, heaps that grow -/
theorem newE {H H' : Hp} {p : Addr} {xs : List V} {zs : List Str} (h : H p = none) (e : upd H p (.lst xs) = H') (hx : xs = zs.map V.str) : Same H H' ∧ H' p = some (.lst (zs.map V.str)) := by
  subst e hx
  exact ⟨Same.new h, upd_same⟩
theorem at_strs {zs : List Str} {k : Nat} (h : k < zs.length) : ∃ z ∈ zs, atI (zs.map V.str) (k : Int) = some (.str z) :=
  ⟨zs[k], List.getElem_mem h, atI_nat (by rw [List.getElem?_map, List.getElem?_eq_getElem h]; rfl)⟩
theorem none_of {H H' : Hp} {p : Addr} (s : Same H H') (h : H' p = none) : H p = none := by
  cases e : H p with
  | none => rfl
  | some o => rw [s _ _ e] at h; cases h
theorem catE {H : Hp} {l b : Addr} {zs ys : List Str} {Q : VK} (hl : H l = some (.lst (zs.map V.str))) (hb : H b = some (.lst (ys.map V.str))) (hn : zs.length + ys.length ≤ 1000) (q : ∀ p H', Same H H' → H p = none → H' p = some (.lst ((zs ++ ys).map V.str)) → Q (.ref p) H') : rCat (.ref l) (.ref b) H Q :=
  ⟨l, b, _, _, rfl, rfl, hl, hb, by rw [List.length_map, List.length_map]; exact small64 (by omega), fun p hp => q p _ (Same.new hp) hp (by rw [upd_same, List.map_append])⟩
def LstS (H : Hp) (Q : VK) (zs : List Str) : Prop := ∀ p H', Same H H' → H p = none → H' p = some (.lst (zs.map V.str)) → Q (.ref p) H'
theorem lc_mapS {K : PySem.W.Frag} {a : Addr} {zs : List Str} {j : Nat} {te : TE} {σ : L2.St} {H1 : Hp} {D : Addr} {Qd : Hp → Prop} (f : Str → Str) (hD : H1 D = none) (hS : SqL K H1 a (zs.map V.str)) (hn : zs.length ≤ 100000)
    (hs : ∀ z H Q, z ∈ zs → Same H1 H → (∀ H', Same H H' → Q (.str (f z)) H') → te ((σ.set j none).set j (some (.str z))) H Q) (hd : ∀ H, Same H1 H → H D = some (.lst ((zs.map f).map V.str)) → Qd H) :
    ∃ W : Nat → Nat → Hp → Prop, (∃ m, W 0 m (upd H1 D (.lst []))) ∧ ∀ i m H, W i m H →
      ((Itl K a).stop i H ∧ Qd H) ∨ ((Itl K a).go i H ∧ ∃ Nx : Hp → Prop, (∀ H', Nx H' → ∃ m', m' < m ∧ W (i + 1) m' H') ∧ ∀ x H', (Itl K a).yld i H x H' → gName j x (wipe σ [j]) H' fun σ2 H2 => wipe σ2 [j] = wipe σ [j] ∧ tYes σ2 H2 fun b H3 =>
        if b = true then te σ2 H3 fun y H4 => ∃ acc, H4 D = some (.lst acc) ∧ acc.length < sizeLine ∧ Nx (upd H4 D (.lst (acc ++ [y]))) else Nx H3) := by
  refine lc_map (f := fun v => match v with | .str z => .str (f z) | v => v) hD hS (by rw [List.length_map]; exact hn) (fun x H2 Q2 hx s2 q2 => ?_) (fun H2 s2 hD2 => ?_)
  · obtain ⟨z, hz, rfl⟩ := List.mem_map.mp hx
    exact hs z H2 Q2 hz s2 q2
  · refine hd H2 s2 ?_
    rw [hD2, List.map_map, List.map_map]; rfl
theorem flat_strs : ∀ zs : List Str, (zs.map V.str).all flatV = true
  | [] => rfl
  | _ :: r => flat_strs r
theorem inV_mem (z : Str) (zs : List Str) : inV (.str z) (zs.map V.str) = true ↔ z ∈ zs := by
  unfold inV
  rw [List.any_map, List.any_eq_true]
  constructor
  · rintro ⟨y, hy, e⟩
    have e' : (y == z) = true := e
    rw [← eq_of_beq e']; exact hy
  · intro h
    exact ⟨z, h, (beq_self_eq_true z : (z == z) = true)⟩

/-! ### a comprehension over a range, whose items are drawn -/
theorem lc_anyR {n j : Nat} {te : TE} {σ : L2.St} {H1 : Hp} {D : Addr} {Qd : Hp → Prop} (φ : V → Prop) (hD : H1 D = none) (hn : n ≤ 100000)
    (hs : ∀ i H Q, i < n → Same H1 H → (∀ y H', φ y → Same H H' → Q y H') → te ((σ.set j none).set j (some (.int i))) H Q) (hd : ∀ xs H, xs.length = n → (∀ x ∈ xs, φ x) → Same H1 H → H D = some (.lst xs) → Qd H) :
    ∃ W : Nat → Nat → Hp → Prop, (∃ m, W 0 m (upd H1 D (.lst []))) ∧ ∀ i m H, W i m H →
      ((Itr 0 n).stop i H ∧ Qd H) ∨ ((Itr 0 n).go i H ∧ ∃ Nx : Hp → Prop, (∀ H', Nx H' → ∃ m', m' < m ∧ W (i + 1) m' H') ∧ ∀ x H', (Itr 0 n).yld i H x H' → gName j x (wipe σ [j]) H' fun σ2 H2 => wipe σ2 [j] = wipe σ [j] ∧ tYes σ2 H2 fun b H3 =>
        if b = true then te σ2 H3 fun y H4 => ∃ acc, H4 D = some (.lst acc) ∧ acc.length < sizeLine ∧ Nx (upd H4 D (.lst (acc ++ [y]))) else Nx H3) := by
  refine lc_range (fun i H => Same H1 H ∧ ∃ xs : List V, xs.length = i ∧ (∀ x ∈ xs, φ x) ∧ H D = some (.lst xs)) ⟨Same.new hD, [], rfl, (fun _ z => nomatch z), upd_same⟩ (fun i H hi h => ?_) (fun H h => by obtain ⟨s, xs, hl, hx, hk⟩ := h; exact hd xs H hl hx s hk)
  rw [Int.zero_add]
  obtain ⟨s, xs, hl, hx, hk⟩ := h
  refine ⟨?_, ?_⟩
  · show (((σ.set j none).set j (some (V.int i))).set j none) = σ.set j none
    rw [List.set_set, List.set_set]
  · simp only [tYes, if_true]
    refine hs i H _ hi s fun y H' hy s' => ?_
    refine ⟨_, s' _ _ hk, ?_, fun b o e => ?_, xs ++ [y], ?_, fun x hx' => ?_, upd_same⟩
    · exact small64' (by omega)
    · have nb : b ≠ D := fun z => by rw [z, hD] at e; cases e
      rw [upd_ne nb]; exact s' _ _ (s _ _ e)
    · rw [List.length_append, hl]; rfl
    · rcases List.mem_append.mp hx' with z | z
      · exact hx x z
      · rw [List.mem_singleton] at z; rw [z]; exact hy
theorem ints_of {ψ : Int → Prop} : ∀ {xs : List V}, (∀ x ∈ xs, ∃ n, x = .int n ∧ ψ n) → ∃ ns : List Int, xs = ns.map V.int ∧ ∀ n ∈ ns, ψ n
  | [], _ => ⟨[], rfl, fun _ z => nomatch z⟩
  | x :: r, h => by
    obtain ⟨n, rfl, hn⟩ := h x (List.mem_cons_self ..)
    obtain ⟨ns, rfl, hns⟩ := ints_of fun y hy => h y (List.mem_cons_of_mem _ hy)
    refine ⟨n :: ns, rfl, fun m hm => ?_⟩
    rcases List.mem_cons.mp hm with e | hm
    · rw [e]; exact hn
    · exact hns m hm
theorem strs_of {ψ : Str → Prop} : ∀ {xs : List V}, (∀ x ∈ xs, ∃ z, x = .str z ∧ ψ z) → ∃ zs : List Str, xs = zs.map V.str ∧ ∀ z ∈ zs, ψ z
  | [], _ => ⟨[], rfl, fun _ z => nomatch z⟩
  | x :: r, h => by
    obtain ⟨n, rfl, hn⟩ := h x (List.mem_cons_self ..)
    obtain ⟨ns, rfl, hns⟩ := strs_of fun y hy => h y (List.mem_cons_of_mem _ hy)
    refine ⟨n :: ns, rfl, fun m hm => ?_⟩
    rcases List.mem_cons.mp hm with e | hm
    · rw [e]; exact hn
    · exact hns m hm

/-! ### comprehensions that make trees -/
section
variable {K : PySem.W.Frag} {j : Nat} {tt : TT} {te : TE} {σ : L2.St} {H1 : Hp} {D : Addr} {Qd : Hp → Prop}
/-- where such a comprehension stands -/
def LcP (K : PySem.W.Frag) (H1 : Hp) (D : Addr) (out : Nat → List PyData) (i : Nat) (H : Hp) : Prop := Same H1 H ∧ ∃ ys, H D = some (.lst ys) ∧ DtA K H ys (out i) ∧ ys.length ≤ i
theorem LcP.put {out : Nat → List PyData} {i : Nat} {H H4 : Hp} {y : V} {d : PyData} (hD : H1 D = none) (hi : i ≤ 100000) (p : LcP K H1 D out i H) (s : Same H H4) (h : Dt K H4 y d) (e : out (i + 1) = out i ++ [d]) :
    ∃ acc, H4 D = some (.lst acc) ∧ acc.length < sizeLine ∧ LcP K H1 D out (i + 1) (upd H4 D (.lst (acc ++ [y]))) := by
  obtain ⟨s1, ys, k, a, l⟩ := p
  have k4 := s _ _ k
  have t := Ti.putL (K := K) (o' := .lst (ys ++ [y])) k4
  refine ⟨ys, k4, small64' (by omega), fun b o q => ?_, ys ++ [y], upd_same, ?_, by rw [List.length_append]; exact Nat.add_le_add l (Nat.le_refl _)⟩
  · have nb : b ≠ D := fun z => by rw [z, hD] at q; cases q
    rw [upd_ne nb]; exact s _ _ (s1 _ _ q)
  · rw [e]
    exact ((a.same s).ti t).snoc (h.ti t)
theorem LcP.mov {out : Nat → List PyData} {i : Nat} {H H4 : Hp} (p : LcP K H1 D out i H) (s : Same H H4) (e : out (i + 1) = out i) : LcP K H1 D out (i + 1) H4 := by
  obtain ⟨s1, ys, k, a, l⟩ := p
  exact ⟨s1.trans s, ys, s _ _ k, by rw [e]; exact a.same s, by omega⟩
theorem LcP.zero {out : Nat → List PyData} (hD : H1 D = none) (h0 : out 0 = []) : LcP K H1 D out 0 (upd H1 D (.lst [])) := ⟨Same.new hD, [], upd_same, by rw [h0]; exact .nil, Nat.le_refl _⟩
/-- a turn of such a comprehension -/
def LcTurn (K : PySem.W.Frag) (tt : TT) (te : TE) (σ : L2.St) (j : Nat) (out : Nat → List PyData) (i : Nat) (x : V) (H : Hp) : Prop :=
  ∀ (Y : VK) (N : Hp → Prop), (∀ y H' d, Same H H' → Dt K H' y d → out (i + 1) = out i ++ [d] → Y y H') → (∀ H', Same H H' → out (i + 1) = out i → N H') →
    tt ((σ.set j none).set j (some x)) H fun b H3 => if b = true then te ((σ.set j none).set j (some x)) H3 Y else N H3
theorem lcD_list {a : Addr} {xs : List V} (out : Nat → List PyData) (hD : H1 D = none) (hS : SqL K H1 a xs) (hn : xs.length ≤ 100000) (h0 : out 0 = []) (hs : ∀ i x H, xs[i]? = some x → Same H1 H → LcTurn K tt te σ j out i x H)
    (hd : ∀ H ys, Same H1 H → H D = some (.lst ys) → DtA K H ys (out xs.length) → ys.length ≤ xs.length → Qd H) :
    ∃ W : Nat → Nat → Hp → Prop, (∃ m, W 0 m (upd H1 D (.lst []))) ∧ ∀ i m H, W i m H →
      ((Itl K a).stop i H ∧ Qd H) ∨ ((Itl K a).go i H ∧ ∃ Nx : Hp → Prop, (∀ H', Nx H' → ∃ m', m' < m ∧ W (i + 1) m' H') ∧ ∀ x H', (Itl K a).yld i H x H' → gName j x (wipe σ [j]) H' fun σ2 H2 => wipe σ2 [j] = wipe σ [j] ∧ tt σ2 H2 fun b H3 =>
        if b = true then te σ2 H3 fun y H4 => ∃ acc, H4 D = some (.lst acc) ∧ acc.length < sizeLine ∧ Nx (upd H4 D (.lst (acc ++ [y]))) else Nx H3) := by
  refine lc_list (xs := xs) (LcP K H1 D out) (LcP.zero hD h0) (fun i H _ h => h.1.seq hS) (fun i x H hx h => ?_) (fun H h => by obtain ⟨s, ys, k, a, l⟩ := h; exact hd H ys s k a l)
  have hi : i < xs.length := (List.getElem?_eq_some_iff.mp hx).1
  refine ⟨by show (((σ.set j none).set j (some x)).set j none) = σ.set j none; rw [List.set_set, List.set_set], ?_⟩
  exact hs i x H hx h.1 _ _ (fun y H' d s h' e => h.put hD (by omega) s h' e) (fun H' s e => h.mov s e)
theorem lcD_tup {a : Addr} {xs : List V} (out : Nat → List PyData) (hD : H1 D = none) (hS : SqT K H1 a xs) (hn : xs.length ≤ 100000) (h0 : out 0 = []) (hs : ∀ i x H, xs[i]? = some x → Same H1 H → LcTurn K tt te σ j out i x H)
    (hd : ∀ H ys, Same H1 H → H D = some (.lst ys) → DtA K H ys (out xs.length) → ys.length ≤ xs.length → Qd H) :
    ∃ W : Nat → Nat → Hp → Prop, (∃ m, W 0 m (upd H1 D (.lst []))) ∧ ∀ i m H, W i m H →
      ((Itt K a).stop i H ∧ Qd H) ∨ ((Itt K a).go i H ∧ ∃ Nx : Hp → Prop, (∀ H', Nx H' → ∃ m', m' < m ∧ W (i + 1) m' H') ∧ ∀ x H', (Itt K a).yld i H x H' → gName j x (wipe σ [j]) H' fun σ2 H2 => wipe σ2 [j] = wipe σ [j] ∧ tt σ2 H2 fun b H3 =>
        if b = true then te σ2 H3 fun y H4 => ∃ acc, H4 D = some (.lst acc) ∧ acc.length < sizeLine ∧ Nx (upd H4 D (.lst (acc ++ [y]))) else Nx H3) := by
  refine lc_tup (xs := xs) (LcP K H1 D out) (LcP.zero hD h0) (fun i H _ h => Same.ti h.1 _ _ hS) (fun i x H hx h => ?_) (fun H h => by obtain ⟨s, ys, k, a, l⟩ := h; exact hd H ys s k a l)
  have hi : i < xs.length := (List.getElem?_eq_some_iff.mp hx).1
  refine ⟨by show (((σ.set j none).set j (some x)).set j none) = σ.set j none; rw [List.set_set, List.set_set], ?_⟩
  exact hs i x H hx h.1 _ _ (fun y H' d s h' e => h.put hD (by omega) s h' e) (fun H' s e => h.mov s e)
theorem lcD_range {n : Nat} (out : Nat → List PyData) (hD : H1 D = none) (hn : n ≤ 100000) (h0 : out 0 = []) (hs : ∀ i H, i < n → Same H1 H → LcTurn K tt te σ j out i (.int (i : Int)) H)
    (hd : ∀ H ys, Same H1 H → H D = some (.lst ys) → DtA K H ys (out n) → ys.length ≤ n → Qd H) :
    ∃ W : Nat → Nat → Hp → Prop, (∃ m, W 0 m (upd H1 D (.lst []))) ∧ ∀ i m H, W i m H →
      ((Itr 0 n).stop i H ∧ Qd H) ∨ ((Itr 0 n).go i H ∧ ∃ Nx : Hp → Prop, (∀ H', Nx H' → ∃ m', m' < m ∧ W (i + 1) m' H') ∧ ∀ x H', (Itr 0 n).yld i H x H' → gName j x (wipe σ [j]) H' fun σ2 H2 => wipe σ2 [j] = wipe σ [j] ∧ tt σ2 H2 fun b H3 =>
        if b = true then te σ2 H3 fun y H4 => ∃ acc, H4 D = some (.lst acc) ∧ acc.length < sizeLine ∧ Nx (upd H4 D (.lst (acc ++ [y]))) else Nx H3) := by
  refine lc_range (LcP K H1 D out) (LcP.zero hD h0) (fun i H hi h => ?_) (fun H h => by obtain ⟨s, ys, k, a, l⟩ := h; exact hd H ys s k a l)
  rw [Int.zero_add]
  refine ⟨by show (((σ.set j none).set j (some (V.int i))).set j none) = σ.set j none; rw [List.set_set, List.set_set], ?_⟩
  exact hs i H hi h.1 _ _ (fun y H' d s h' e => h.put hD (by omega) s h' e) (fun H' s e => h.mov s e)
/-- over a range, whose items are made of things with a property -/
theorem lcX_range {α : Type} {n : Nat} (f : α → PyData) (p : α → Prop) (hD : H1 D = none) (hn : n ≤ 100000)
    (hs : ∀ (i : Nat) (H : Hp) (Y : VK), i < n → Same H1 H → (∀ (y : V) (H' : Hp) (a : α), Same H H' → Dt K H' y (f a) → p a → Y y H') → te ((σ.set j none).set j (some (.int (i : Int)))) H Y)
    (hd : ∀ (H : Hp) (ys : List V) (al : List α), Same H1 H → H D = some (.lst ys) → DtA K H ys (al.map f) → (∀ a ∈ al, p a) → al.length = n → Qd H) :
    ∃ W : Nat → Nat → Hp → Prop, (∃ m, W 0 m (upd H1 D (.lst []))) ∧ ∀ i m H, W i m H →
      ((Itr 0 n).stop i H ∧ Qd H) ∨ ((Itr 0 n).go i H ∧ ∃ Nx : Hp → Prop, (∀ H', Nx H' → ∃ m', m' < m ∧ W (i + 1) m' H') ∧ ∀ x H', (Itr 0 n).yld i H x H' → gName j x (wipe σ [j]) H' fun σ2 H2 => wipe σ2 [j] = wipe σ [j] ∧ tYes σ2 H2 fun b H3 =>
        if b = true then te σ2 H3 fun y H4 => ∃ acc, H4 D = some (.lst acc) ∧ acc.length < sizeLine ∧ Nx (upd H4 D (.lst (acc ++ [y]))) else Nx H3) := by
  refine lc_range (fun i H => Same H1 H ∧ ∃ (ys : List V) (al : List α), H D = some (.lst ys) ∧ DtA K H ys (al.map f) ∧ (∀ a ∈ al, p a) ∧ al.length = i) ⟨Same.new hD, [], [], upd_same, .nil, (fun _ z => nomatch z), rfl⟩ (fun i H hi h => ?_)
    (fun H h => by obtain ⟨s, ys, al, k, a, hp, l⟩ := h; exact hd H ys al s k a hp l)
  rw [Int.zero_add]
  obtain ⟨s1, ys, al, k, a, hp, l⟩ := h
  refine ⟨by show (((σ.set j none).set j (some (V.int i))).set j none) = σ.set j none; rw [List.set_set, List.set_set], ?_⟩
  simp only [tYes, if_true]
  refine hs i H _ hi s1 fun y H' a0 s h' hp0 => ?_
  have k4 := s _ _ k
  have t := Ti.putL (K := K) (o' := .lst (ys ++ [y])) k4
  have ly := a.len
  rw [List.length_map] at ly
  refine ⟨ys, k4, small64' (by omega), fun b o e => ?_, ys ++ [y], al ++ [a0], upd_same, ?_, fun z hz => ?_, by rw [List.length_append, l]; rfl⟩
  · have nb : b ≠ D := fun z => by rw [z, hD] at e; cases e
    rw [upd_ne nb]; exact s _ _ (s1 _ _ e)
  · rw [List.map_append]
    exact ((a.same s).ti t).snoc (h'.ti t)
  · rcases List.mem_append.mp hz with z1 | z1
    · exact hp z z1
    · rw [List.mem_singleton] at z1; rw [z1]; exact hp0
/-- all items, in the places of a list of data -/
theorem take_snoc {α : Type} {xs : List α} {i : Nat} {x : α} (h : xs[i]? = some x) : xs.take (i + 1) = xs.take i ++ [x] := by rw [List.take_add_one, h]; rfl
theorem map_take_snoc {α β : Type} {xs : List α} {i : Nat} {x : α} (f : α → β) (h : xs[i]? = some x) : (xs.take (i + 1)).map f = (xs.take i).map f ++ [f x] := by rw [take_snoc h, List.map_append]; rfl
theorem filt_take_yes {α β : Type} {xs : List α} {i : Nat} {x : α} (p : α → Bool) (f : α → β) (h : xs[i]? = some x) (hp : p x = true) : ((xs.take (i + 1)).filter p).map f = ((xs.take i).filter p).map f ++ [f x] := by
  rw [take_snoc h, List.filter_append, List.filter_cons_of_pos hp, List.map_append]; rfl
theorem filt_take_no {α β : Type} {xs : List α} {i : Nat} {x : α} (p : α → Bool) (f : α → β) (h : xs[i]? = some x) (hp : p x = false) : ((xs.take (i + 1)).filter p).map f = ((xs.take i).filter p).map f := by
  rw [take_snoc h, List.filter_append, List.filter_cons_of_neg (by rw [hp]; decide)]; simp
end

section
variable {X : Cx} {s : Shared} {H : Hp} {sc : Scope} {en : Env} {fp : List Addr}
theorem sl_tupB : SlR (X.blk s H sc en fp) (rSlT X.K) := sl_tup
theorem pi_listT {tg iter : Expr} {te : TE} {pn : List (Addr × Obj)} {xe : Value → Shared → Prop} (he : PE (X.tr pn xe) iter te) : PI (X.tr pn xe) tg iter (iList X.K te) := pi_list he
theorem ix_tupTr {pn : List (Addr × Obj)} {xe : Value → Shared → Prop} : IxR (X.tr pn xe) (L2.rIxT X.K) := ix_tup
theorem ix_listTr {pn : List (Addr × Obj)} {xe : Value → Shared → Prop} : IxR (X.tr pn xe) (L2.rIxL X.K) := ix_list
theorem sl_tupBT {pn : List (Addr × Obj)} {xe : Value → Shared → Prop} : SlR ((X.tr pn xe).blk s H sc en fp) (rSlT X.K) := sl_tup
theorem op_catTB : OpR (X.blk s H sc en fp) (binaryOp .Add) (rCatT X.K) := op_catT
theorem op_neDB (hu : X.A.units + 64 < cLine) : OpR (X.blk s H sc en fp) (compareOp .NotEq) (rNeD X.K) := op_neD (X := X.blk s H sc en fp) hu
theorem op_eqDB (hu : X.A.units + 64 < cLine) : OpR (X.blk s H sc en fp) (compareOp .Eq) (rEqD X.K) := op_eqD (X := X.blk s H sc en fp) hu
end

/-! ### e.f in a comprehension -/
theorem pe_fldB {X : Cx} {s : Shared} {H : Hp} {sc : Scope} {en : Env} {fp : List Addr} {e : Expr} {f : Str} {pos : Pos} {ta : TE} (he : PE (X.blk s H sc en fp) e ta) (hb : attributeBase e f (X.blk s H sc en fp).env (eval e (X.blk s H sc en fp).env) = eval e (X.blk s H sc en fp).env) :
    PE (X.blk s H sc en fp) (.Attribute e f pos) (tFld X.K ta f) := pe_fld he hb

/-! ### enumerate(tuple) -/
section
variable {prog : Program} {w : World} {A : Around} {E : Value → Shared → Prop} {s : Shared}
theorem et_next {e it l : Addr} {c : Int} {i : Nat} {X : Array Value} {x old : Value} {Q : Value → Shared → Prop} (he : IsEnum s.heap e it c old) (hit : s.heap.IsTupleIter it l i) (hl : s.heap.IsTuple l X) (hx : X[i]? = some x) (hne : e ≠ it)
    (hQ : ∀ h', IsEnumOut h' e it (c + 1) x s.heap.objs.size → h'.IsTupleIter it l (i + 1) → h'.get? s.heap.objs.size = some { cls := .type "tuple", data := .seq #[.int c s.toks, x] } → h'.objs.size = s.heap.objs.size + 1 →
      (∀ b o, b ≠ e → b ≠ it → s.heap.get? b = some o → h'.get? b = some o) → Q (.ref s.heap.objs.size) { s with heap := h', toks := s.toks + 1 }) :
    wpAny (model prog w) A (Builtin.«enumerate.__next__» ⟨[.ref e], []⟩) (fun fin s' => ∃ v, fin = .done (.ret v) ∧ Q v s') E s := by
  obtain ⟨hp, g, d, tk, os⟩ := s
  show wpAny _ _ (field (.ref e) 2 >>= _) _ _ _
  refine wpAny_bind (wpAny_field he rfl (x := .ref it) rfl ?_)
  refine wpAny_bind (wpAny_nextOf_tuple_item hit hl hx fun g1 j1 s1 => ?_)
  have s1' : Heap.SameBut it hp g1 := s1
  have a1 : IsEnum g1 e it c old := s1'.extBut _ _ hne he
  show wpAny _ _ (field (.ref e) 3 >>= _) _ _ ⟨g1, g, d, tk, os⟩
  refine wpAny_bind (wpAny_field a1 rfl (x := rawInt c) rfl ?_)
  show wpAny _ _ (field (.ref e) 4 >>= _) _ _ ⟨g1, g, d, tk, os⟩
  refine wpAny_bind (wpAny_field a1 rfl (x := .none) rfl ?_)
  show wpAny _ _ (mkInt c >>= _) _ _ ⟨g1, g, d, tk, os⟩
  refine wpAny_bind (wpAny_mkInt ?_)
  show wpAny _ _ (setField (.ref e) 3 (rawInt (c + 1)) >>= _) _ _ ⟨g1, g, d, tk + 1, os⟩
  refine wpAny_bind (wpAny_setField_rec a1 (by simp) fun g2 b2 s2 => ?_)
  have a2 : IsEnum g2 e it (c + 1) old := b2
  have s2' : Heap.SameBut e g1 g2 := s2
  show wpAny _ _ (setField (.ref e) 4 .none >>= _) _ _ ⟨g2, g, d, tk + 1, os⟩
  refine wpAny_bind (wpAny_setField_rec a2 (by simp) fun g3 b3 s3 => ?_)
  have a3 : IsEnum g3 e it (c + 1) old := b3
  have s3' : Heap.SameBut e g2 g3 := s3
  have k3 : ∀ b o, b ≠ e → b ≠ it → hp.get? b = some o → g3.get? b = some o := fun b o n1 n2 q => s3'.extBut _ _ n1 (s2'.extBut _ _ n1 (s1'.extBut _ _ n2 q))
  have z3 : g3.objs.size = hp.objs.size := by rw [s3'.1, s2'.1, s1'.1]
  have j3 : g3.IsTupleIter it l (i + 1) := j1.at fun o q => s3'.extBut _ _ (Ne.symm hne) (s2'.extBut _ _ (Ne.symm hne) q)
  show wpAny _ _ (newTuple [.int c tk, x] >>= _) _ _ ⟨g3, g, d, tk + 1, os⟩
  refine wpAny_bind (wpAny_newTuple ?_)
  have a4 : IsEnum (g3.push { cls := .type "tuple", data := .seq #[.int c tk, x] }) e it (c + 1) old := Heap.get?_push_of_some _ a3
  have t4 : (g3.push { cls := .type "tuple", data := .seq #[.int c tk, x] }).get? g3.objs.size = some { cls := .type "tuple", data := .seq #[.int c tk, x] } := Heap.get?_push_size _ rfl
  have z4 : (g3.push { cls := .type "tuple", data := .seq #[.int c tk, x] }).objs.size = hp.objs.size + 1 := by rw [Heap.size_push, z3]
  have k4 : ∀ b o, b ≠ e → b ≠ it → hp.get? b = some o → (g3.push { cls := .type "tuple", data := .seq #[.int c tk, x] }).get? b = some o := fun b o n1 n2 q => Heap.get?_push_of_some _ (k3 b o n1 n2 q)
  have j4 : (g3.push { cls := .type "tuple", data := .seq #[.int c tk, x] }).IsTupleIter it l (i + 1) := j3.at fun o q => Heap.get?_push_of_some _ q
  have lt : e < hp.objs.size := Heap.lt_size he
  generalize g3.push { cls := .type "tuple", data := .seq #[.int c tk, x] } = g4 at a4 t4 z4 k4 j4
  show wpAny _ _ (Builtin.SmallTypes.ownedTupleIsFree (.ref e) >>= _) _ _ ⟨g4, g, d, tk + 1, os⟩
  rw [z3]
  rw [z3] at t4
  refine wpAny_bind ?_
  unfold Builtin.SmallTypes.ownedTupleIsFree
  refine wpAny_bind (wpAny_field a4 rfl (x := .none) rfl (wpAny_pure ?_))
  simp only [if_true]
  refine wpAny_bind (wpAny_rule (wpAny_bind (wpAny_field a4 rfl (x := old) rfl ?_)))
  refine wpAny_bind (wpAny_setField_rec a4 (by simp) fun g5 b5 s5 => ?_)
  have a5 : IsEnum g5 e it (c + 1) x := b5
  have s5' : Heap.SameBut e g4 g5 := s5
  show wpAny _ _ (Builtin.SmallTypes.ownedTupleHandOut (.ref e) (.ref hp.objs.size) >>= _) _ _ ⟨g5, g, d, tk + 1, os⟩
  refine wpAny_bind ?_
  unfold Builtin.SmallTypes.ownedTupleHandOut
  refine wpAny_bind (wpAny_setField_rec a5 (by simp) fun g6 b6 s6 => ?_)
  have a6 : IsEnumOut g6 e it (c + 1) x hp.objs.size := b6
  have s6' : Heap.SameBut e g5 g6 := s6
  refine wpAny_setField_rec a6 (by simp) fun g7 b7 s7 => ?_
  have s7' : Heap.SameBut e g6 g7 := s7
  have up : ∀ b o, b ≠ e → g4.get? b = some o → g7.get? b = some o := fun b o n q => s7'.extBut _ _ n (s6'.extBut _ _ n (s5'.extBut _ _ n q))
  refine wpAny_bind (wpAny_letGo (wpAny_pure ⟨_, rfl, hQ g7 b7 (j4.at fun o q => up _ o (Ne.symm hne) q) (up _ _ (Nat.ne_of_gt lt) t4) (by rw [s7'.1, s6'.1, s5'.1, z4]) fun b o n1 n2 q => up b o n1 (k4 b o n1 n2 q)⟩))
theorem et_item {e it l : Addr} {c : Int} {i : Nat} {X : Array Value} {x old : Value} {Q : Option Value → Shared → Prop} (he : IsEnum s.heap e it c old) (hit : s.heap.IsTupleIter it l i) (hl : s.heap.IsTuple l X) (hx : X[i]? = some x) (hne : e ≠ it)
    (hQ : ∀ h', IsEnumOut h' e it (c + 1) x s.heap.objs.size → h'.IsTupleIter it l (i + 1) → h'.get? s.heap.objs.size = some { cls := .type "tuple", data := .seq #[.int c s.toks, x] } → h'.objs.size = s.heap.objs.size + 1 →
      (∀ b o, b ≠ e → b ≠ it → s.heap.get? b = some o → h'.get? b = some o) → Q (some (.ref s.heap.objs.size)) { s with heap := h', toks := s.toks + 1 }) : wpAny (model prog w) A (pyNext (.ref e)) Q E s := by
  have hT : s.TypeIs (.ref e) "enumerate" := ⟨_, he, rfl⟩
  unfold pyNext
  exact wpAny_bind (wpAny_attempt (wpAny_callSpecial?_slot (name := Str.ofString "__next__") hT F.slot_enumerate_next (wpAny_call_entry F.slot_enumerate_next hT F.entry_enumerate_next
    (et_next he hit hl hx hne fun h' q1 q2 q3 q4 q5 => wpAny_pure (hQ h' q1 q2 q3 q4 q5)) (F.args_enumerate_next_1 _))))
theorem et_stop {e it l : Addr} {c : Int} {i : Nat} {X : Array Value} {old : Value} {Q : Option Value → Shared → Prop} (hh : A.handled = none) (he : IsEnum s.heap e it c old) (hit : s.heap.IsTupleIter it l i) (hl : s.heap.IsTuple l X) (hx : X[i]? = none)
    (hQ : ∀ h', Heap.ExtBut it s.heap h' → Q none { s with heap := h' }) : wpAny (model prog w) A (pyNext (.ref e)) Q E s := by
  have hT : s.TypeIs (.ref e) "enumerate" := ⟨_, he, rfl⟩
  unfold pyNext
  refine wpAny_bind (wpAny_attempt (wpAny_callSpecial?_slot (name := Str.ofString "__next__") hT F.slot_enumerate_next (wpAny_call_entry F.slot_enumerate_next hT F.entry_enumerate_next ?_ (F.args_enumerate_next_1 _))))
  show wpAny _ _ (field (.ref e) 2 >>= _) _ _ _
  refine wpAny_bind (wpAny_field he rfl (x := .ref it) rfl (wpAny_bind (wpAny_nextOf_tuple_end hh hit hl hx fun h' x k z => ?_)))
  obtain ⟨o, ho, hc⟩ := z
  exact wpAny_bind (wpAny_isInstance (T := "StopIteration") (b := true) ⟨o, ho, hc⟩ isSubtype_stop (wpAny_pure (hQ _ k)))
end
theorem e3_meets (l : Addr) (X : Array Value) (n : Nat) (dct : Option Addr) (sl : Array (Option Value)) :
    Meets (Builtin.«enumerate.__new__» ⟨[.type "enumerate", .ref l], []⟩) (fun _ R s => s.heap.get? l = some { cls := .type "tuple", dict := dct, data := .seq X n, slots := sl } ∧
      R (.ok (.ret (.ref (s.heap.push { cls := .type "tuple_iterator", data := .fields #[.ref l, .int 0 0] }).objs.size)))
        { s with heap := (s.heap.push { cls := .type "tuple_iterator", data := .fields #[.ref l, .int 0 0] }).push { cls := .type "enumerate", data := .fields #[.none, .bool false, .ref s.heap.objs.size, rawInt 0, .none, .none] } }) :=
  .of_wp fun prog w A R s h => by
    obtain ⟨hp, g, d, tk, os⟩ := s; obtain ⟨hl, h⟩ := h
    have hsub := sub_enumerate
    have hL : Heap.IsTuple (Shared.heap ⟨hp, g, d, tk, os⟩) l X := ⟨_, hl, rfl, n, rfl⟩
    wp_walk using AutoSeq1.wpAny_loadPart' hl
    refine wpAny_stack_any fun st => wpAny_pure ?_
    split
    · rename_i c' _ _ _ _ _
      cases (c' == Value.type "enumerate")
      · wp_walk using AutoSeq1.wpAny_loadPart' hl, wpAny_pyIter_tuple hL
        exact ⟨_, rfl, h⟩
      · wp_walk using AutoSeq1.wpAny_loadPart' hl, wpAny_pyIter_tuple hL
        exact ⟨_, rfl, h⟩
    · wp_walk using AutoSeq1.wpAny_loadPart' hl, wpAny_pyIter_tuple hL
      exact ⟨_, rfl, h⟩
section
variable {prog : Program} {w : World} {A : Around} {E : Value → Shared → Prop} {s : Shared}
theorem e3_make {l : Addr} {X : Array Value} {Q : Value → Shared → Prop} (hL : s.heap.IsTuple l X)
    (h : ∀ h', IsEnum h' (s.heap.objs.size + 1) s.heap.objs.size 0 .none → h'.IsTupleIter s.heap.objs.size l 0 → (∀ b o, s.heap.get? b = some o → h'.get? b = some o) → Q (.ref (s.heap.objs.size + 1)) { s with heap := h' }) :
    wpAny (model prog w) A (call (.type "enumerate") [.ref l]) Q E s := by
  obtain ⟨⟨cl, dct, dt, sl⟩, hl, hc, n, hd⟩ := hL
  obtain rfl : cl = .type "tuple" := hc
  obtain rfl : dt = .seq X n := hd
  refine callType_new F.called_enumerate (by decide) (F.typeCall_enumerate_1 _) (F.newCall_enumerate_1 _) (fun obj => F.args_object_init_2 obj _) F.entry_enumerate_new (e3_meets l X n dct sl) ⟨hl, ?_⟩
  have hz : (s.heap.push { cls := .type "tuple_iterator", data := .fields #[.ref l, .int 0 0] }).objs.size = s.heap.objs.size + 1 := Heap.size_push ..
  have he : ((s.heap.push { cls := .type "tuple_iterator", data := .fields #[.ref l, .int 0 0] }).push { cls := .type "enumerate", data := .fields #[.none, .bool false, .ref s.heap.objs.size, rawInt 0, .none, .none] }).get?
      (s.heap.push { cls := .type "tuple_iterator", data := .fields #[.ref l, .int 0 0] }).objs.size = some _ := Heap.get?_push_size _ rfl
  show _ ∧ _
  rw [hz] at he ⊢
  exact ⟨⟨_, he, rfl⟩, h _ he ⟨_, Heap.get?_push_of_some _ (Heap.get?_push_size _ rfl), rfl, rfl⟩ fun b o x => Heap.get?_push_of_some _ (Heap.get?_push_of_some _ x)⟩
end
/-- the list at a as it stands at each turn, its items behind numbers from c on -/
def ItU (K : PySem.W.Frag) (a : Addr) (c : Int) : It :=
  ⟨fun i H => ∃ (xs : List V) (x : V), SqT K H a xs ∧ xs[i]? = some x, fun i H v H' => ∃ T x, v = .ref T ∧ H T = none ∧ H' = upd H T (.tup [.int (c + (i : Nat)), x]) ∧ ∀ xs, SqT K H a xs → xs[i]? = some x, fun i H => ∃ xs : List V, SqT K H a xs ∧ xs.length ≤ i⟩
theorem turn_enT {P : Program} {w : World} {K : PySem.W.Frag} {elts : List Expr} {kk : Nat} {tpos : Pos} (a e it : Addr) (c : Int) :
    Turn P w K (.Tuple elts kk tpos) (ItU K a c) [e, it] e (fun i h => (∃ old, IsEnum h e it (c + ((i : Nat) : Int)) old) ∧ h.IsTupleIter it a i ∧ e ≠ it) where
  mem := by simp
  obj := fun i h st b hb => by
    obtain ⟨⟨old, he⟩, ⟨o, ho, hc, hd⟩, _⟩ := st
    rcases (show b = e ∨ b = it by simpa using hb) with z | z
    · rw [z]; exact ⟨_, he, fun v q => nomatch q⟩
    · rw [z]; exact ⟨o, ho, fun v q => by rw [hd] at q; cases q⟩
  keep := fun i h h' st k => let ⟨⟨old, he⟩, hi, hne⟩ := st; ⟨⟨old, k e (by simp) _ he⟩, hi.at fun o q => k it (by simp) o q, hne⟩
  item := by
    intro X hP hw hK hc i pins s σ H E I hf st hg
    subst hP hw hK
    obtain ⟨⟨old, he⟩, hit, hne⟩ := st
    obtain ⟨xs, x, hq, hx⟩ := hg
    obtain ⟨its, rv, p, hz⟩ := I.tuple hq
    obtain ⟨u, hu, ru⟩ := rv.get hx
    have le : e < s.heap.objs.size := Heap.lt_size he
    have li : it < s.heap.objs.size := by obtain ⟨_, q, _⟩ := hit; exact Heap.lt_size q
    refine et_item he hit p (x := u) (by simpa using hu) hne fun h' ho hit' hT hsz hk => ?_
    refine ⟨_, rfl, wpAny_letOwnedTupleGo_enum (s := { s with heap := h', toks := s.toks + 1 }) ho fun h2 he2 sb => ?_⟩
    have hT2 : h2.get? s.heap.objs.size = some { cls := .type "tuple", data := .seq #[.int (c + (i : Nat)) s.toks, u] } := (sb.2 _ (Nat.ne_of_gt le)).trans hT
    have new : ObjOk X.prog X.w (upd H s.heap.objs.size (.tup [.int (c + (i : Nat)), x])) h2 s.heap.objs.size (.tup [.int (c + (i : Nat)), x]) :=
      ⟨by show 2 ≤ sizeLine; decide, [.int (c + (i : Nat)) s.toks, u], .cons ⟨_, rfl⟩ (.cons ru .nil), ⟨_, hT2, rfl, _, rfl⟩⟩
    have I1 : Inv X pins σ (upd H s.heap.objs.size (.tup [.int (c + (i : Nat)), x])) { s with heap := h2, toks := s.toks + 1 } :=
      I.turnedNew (ch := [e, it]) (fun b ob hb q => (sb.2 b (fun z => hb (by simp [z]))).trans (hk b ob (fun z => hb (by simp [z])) (fun z => hb (by simp [z])) q)) hf (Nat.le_refl _) new
    refine ⟨.ref s.heap.objs.size, _, I1, rfl, ⟨_, x, rfl, I.hok.fresh (Nat.le_refl _), rfl, fun ys hy => by rw [I.tuple_inj hy hq]; exact hx⟩, ⟨⟨u, ?_⟩, hit'.at fun o q => (sb.2 it (Ne.symm hne)).trans q, hne⟩, fun b hb => ?_⟩
    · have e1 : c + ((i + 1 : Nat) : Int) = c + (i : Int) + 1 := by omega
      rw [e1]; exact he2
    · have hb' : b < s.heap.objs.size := by
        rcases (show b = e ∨ b = it by simpa using hb) with z | z
        · rw [z]; exact le
        · rw [z]; exact li
      rw [upd_ne (Nat.ne_of_lt hb')]
      exact (hf b hb).1
  done := by
    intro X hP hw hK hc i pins s σ H E I hf st hg
    subst hP hw hK
    obtain ⟨⟨old, he⟩, hit, hne⟩ := st
    obtain ⟨xs, hq, hx⟩ := hg
    obtain ⟨its, rv, p, hz⟩ := I.tuple hq
    obtain ⟨f0, f1, f2, f3, f4, f5⟩ := hf it (by simp)
    have hl := rv.length
    exact et_stop (I.ok.hd hc) he hit p (by simp; omega) fun h' eb => ⟨rfl, I.turned (t' := s.toks) (fun b o hb q => eb b o hb q) f0 f1 f3 f4 f5⟩
  self := fun A i s Q E st h => let ⟨⟨_, he⟩, _⟩ := st; wpAny_pyIter_enum he h
def iEnumT (K : PySem.W.Frag) (ta : TA) : TI := fun σ H R => ta σ H fun vs H1 => ∃ a xs, vs = [.ref a] ∧ SqT K H1 a xs ∧ R (ItU K a 0) H1
theorem pi_enumT {X : Cx} {e : Expr} {ta : TA} {p pos tpos : Pos} {elts : List Expr} {kk : Nat} (hg : Gl X "enumerate") (hm : X.mg "enumerate" = none) (ha : PA X [e] ta) (hs : starEach [e] X.env = [(false, eval e X.env)] := by rfl) :
    PI X (.Tuple elts kk tpos) (.Call (.Name "enumerate" p) [e] [] pos) (iEnumT X.K ta) := by
  refine ⟨fun pins s σ H R I h => Call_ (ld_blt I hg hm boot_enumerate (PyProof.Rows.callWith_type1 (thn (ha.run pos pins s σ H _ I h) fun us s1 ⟨vs, G, J, r1, a, xs, ex, hq, q⟩ => ?_) hs rfl))⟩
  subst ex
  cases r1 with
  | cons r rr =>
    cases rr
    cases r
    obtain ⟨its, _, p', _⟩ := J.tuple hq
    refine e3_make p' fun h' he hit hk => wpAny_pyIter_enum he ?_
    refine ⟨s1.heap.objs.size + 1, [s1.heap.objs.size + 1, s1.heap.objs.size], _, _, G, rfl, J.kept (t' := s1.toks) hk, turn_enT a (s1.heap.objs.size + 1) s1.heap.objs.size 0, ⟨⟨.none, by rw [show (0 : Int) + ((0 : Nat) : Int) = 0 by omega]; exact he⟩, hit, Nat.succ_ne_self _⟩, fun b hb => ?_, q⟩
    have hle : s1.heap.objs.size ≤ b := by
      rcases (show b = s1.heap.objs.size + 1 ∨ b = s1.heap.objs.size by simpa using hb) with z | z
      · rw [z]; exact Nat.le_add_right _ _
      · rw [z]; exact Nat.le_refl _
    exact J.fpOk hle (J.hok.fresh hle)
/-- a loop over enumerate(xs, c) -/
theorem for_enT {K : PySem.W.Frag} {a : Addr} {c : Int} {xs : List V} {g : TG} {tb : TS} {nx : L2.St → Hp → Prop} {rt : VK} {σ : L2.St} {H : Hp} (Pv : Nat → L2.St → Hp → Prop) (h0 : Pv 0 σ H) (hl : ∀ i σ H, i ≤ xs.length → Pv i σ H → SqT K H a xs)
    (hs : ∀ i x (T : Addr) σ H, xs[i]? = some x → Pv i σ H → H T = none → g (.ref T) σ (upd H T (.tup [.int (c + (i : Nat)), x])) fun σ2 H2 => tb { nx := Pv (i + 1), rt := rt, bk := nx, ct := Pv (i + 1) } σ2 H2) (hd : ∀ σ H, Pv xs.length σ H → nx σ H) :
    ∃ W : Nat → Nat → L2.St → Hp → Prop, (∃ m, W 0 m σ H) ∧ ∀ i m σ H, W i m σ H → ((ItU K a c).stop i H ∧ nx σ H) ∨ ((ItU K a c).go i H ∧ ∃ N : L2.St → Hp → Prop, (∀ σ' H', N σ' H' → ∃ m', m' < m ∧ W (i + 1) m' σ' H') ∧
      ∀ v H', (ItU K a c).yld i H v H' → g v σ H' fun σ2 H2 => tb { nx := N, rt := rt, bk := nx, ct := N } σ2 H2) := by
  refine ⟨fun i r σ H => r = xs.length - i ∧ i ≤ xs.length ∧ Pv i σ H, ⟨xs.length, rfl, Nat.zero_le _, h0⟩, ?_⟩
  rintro i _ σ H ⟨rfl, hi, p⟩
  have q := hl i σ H hi p
  by_cases hlt : i < xs.length
  · have hx : xs[i]? = some xs[i] := List.getElem?_eq_getElem hlt
    refine .inr ⟨⟨xs, _, q, hx⟩, Pv (i + 1), fun σ' H' p' => ⟨xs.length - (i + 1), by omega, rfl, hlt, p'⟩, fun v H' y => ?_⟩
    obtain ⟨T, x', rfl, hT, rfl, f1⟩ := y
    exact hs i x' T σ H (f1 xs q) p hT
  · have e : i = xs.length := by omega
    subst e
    exact .inl ⟨⟨xs, q, Nat.le_refl _⟩, hd σ H p⟩

/-! ### del xs[a:] of a list -/
theorem bounds_from {a n : Nat} (h : a ≤ n) : sliceBounds (some (a : Int)) none none n = ((a : Int), (n : Int), 1) := by
  simp only [sliceBounds, Option.getD_none]
  have h1 : ¬ ((a : Int) < 0) := by omega
  simp only [h1, if_false, show (1 : Int) > 0 by decide, if_true]
  congr 1
  omega
theorem drop_sel {α : Type} {f : Nat → Bool} {a : Nat} : ∀ (xs : List α) (j : Nat), (∀ k, j ≤ k → k < j + xs.length → f k = decide (a ≤ k)) → (xs.zipIdx j).filterMap (fun p => if f p.2 = true then none else some p.1) = xs.take (a - j)
  | [], _, _ => by simp
  | x :: r, j, h => by
    rw [List.zipIdx_cons, List.filterMap_cons]
    have ih := drop_sel (a := a) r (j + 1) fun k h1 h2 => h k (by omega) (by rw [List.length_cons]; omega)
    have h0 := h j (Nat.le_refl _) (by rw [List.length_cons]; omega)
    by_cases c : a ≤ j
    · rw [h0, decide_eq_true c, if_pos rfl]
      show List.filterMap _ (r.zipIdx (j + 1)) = _
      rw [ih, show a - (j + 1) = 0 by omega, show a - j = 0 by omega]; rfl
    · rw [h0, decide_eq_false c, if_neg (by decide)]
      show x :: List.filterMap _ (r.zipIdx (j + 1)) = _
      rw [ih, show a - j = (a - (j + 1)) + 1 by omega]; rfl
section
variable {prog : Program} {w : World} {A : Around} {E : Value → Shared → Prop} {s : Shared}
theorem del_from_raw {l sl : Addr} {old : Array Value} {n a : Nat} {vl : Value} {Q : Unit → Shared → Prop} (el : s.heap.get? l = some { cls := .type "list", data := .seq old n }) (hs : s.heap.IsSliceOf sl vl .none .none) (pl : IsPart vl (some (a : Int)))
    (ha : a ≤ old.size) (hz : old.size ≤ sizeLine) (h : ∀ f : Array Value → Array Value, f old = (old.toList.take a).toArray → Q () { s with heap := s.heap.update l (Obj.mapSeq f) }) : wpAny (model prog w) A (delItem (.ref l) (.ref sl)) Q E s := by
  have tl : s.heap.IsList l old := PySem.IsL.isList el
  obtain ⟨os, ho, hc, hd⟩ := id hs
  have ts : s.TypeIs (.ref sl) "slice" := ⟨os, ho, hc⟩
  unfold delItem
  try with_reducible refine wpAny_holding ?_
  first | refine wpAny_bind (wpAny_pure ?_) | skip
  refine wpAny_bind (wpAny_sequenceKey tl.typeIs (by decide) ?_)
  refine wpAny_bind (wpAny_callSpecial?_slot (name := Str.ofString "__delitem__") tl.typeIs F.slot_list_delitem (wpAny_call_entry F.slot_list_delitem tl.typeIs F.entry_list_delitem ?_ (F.args_list_delitem_2 _ _)))
  show wpAny _ _ (Builtin.List.listSubscript? (.ref sl) >>= _) _ _ s
  refine wpAny_bind ?_
  unfold Builtin.List.listSubscript?
  refine wpAny_bind (wpAny_specialOf ts slice_no_index ?_)
  simp only [Option.isNone_none, if_true]
  refine wpAny_pure ?_
  show wpAny _ _ (typeOf (.ref sl) >>= _) _ _ s
  refine wpAny_bind (wpAny_typeOf ts ?_)
  rw [if_neg (by decide)]
  rw [listSliceParts_eq]
  refine wpAny_bind (wpAny_bind (wpAny_field ho hd (x := .none) rfl (wpAny_bind (wpAny_listPart .none ?_))))
  rw [if_neg (show ¬ ((rawPart none == rawInt 0) = true) from Bool.false_ne_true)]
  refine wpAny_bind (wpAny_field ho hd (x := vl) rfl (wpAny_bind (wpAny_listPart pl ?_)))
  refine wpAny_bind (wpAny_field ho hd (x := .none) rfl (wpAny_bind (wpAny_listPart .none (wpAny_pure ?_))))
  dsimp only
  unfold Builtin.List.listItems
  refine wpAny_bind (wpAny_bind (wpAny_seqItems el rfl (wpAny_pure ?_)))
  refine wpAny_bind (wpAny_of_eq ((sliceIndices_raw (some (a : Int)) none none old.size (by simp)).trans (congrArg (pure : Int × Int × Int → Sem (Int × Int × Int)) (bounds_from ha))) ?_)
  refine wpAny_bind (wpAny_rule ?_)
  have hsel : ∀ g : Value × Nat → Bool, (∀ p, g p = (decide ((a : Int) ≤ (p.2 : Int)) && decide ((p.2 : Int) < (old.size : Int)) && (((p.2 : Int) - a) % 1 == 0))) → (old.toList.zipIdx.filterMap (fun p => if g p = true then none else some p.1)).toArray = (old.toList.take a).toArray := fun g hg => by
    have e1 : (fun p => if g p = true then none else some p.1) = (fun p : Value × Nat => if (fun k : Nat => decide ((a : Int) ≤ (k : Int)) && decide ((k : Int) < (old.size : Int)) && (((k : Int) - a) % 1 == 0)) p.2 = true then none else some p.1) := funext fun p => by rw [hg]
    rw [e1]
    rw [drop_sel (f := fun k : Nat => decide ((a : Int) ≤ (k : Int)) && decide ((k : Int) < (old.size : Int)) && (((k : Int) - a) % 1 == 0)) (a := a) old.toList 0 fun k _ hk => ?_, Nat.sub_zero]
    show (decide ((a : Int) ≤ (k : Int)) && decide ((k : Int) < (old.size : Int)) && (((k : Int) - a) % 1 == 0)) = _
    rw [Bool.eq_iff_iff]
    rw [Array.length_toList] at hk
    simp
    omega
  show wpAny _ _ (updateSeq l _ >>= _) _ _ s
  refine wpAny_bind (wpAny_updateSeq (hz := hz) (_hz' := ?hz2) el rfl ?_)
  case hz2 =>
    show (List.toArray _).size ≤ sizeLine + 1
    refine Nat.le_trans (Nat.le_of_eq (congrArg Array.size (hsel _ fun p => rfl))) ?_
    rw [List.size_toArray, List.length_take, Array.length_toList]
    omega
  refine wpAny_bind (wpAny_letGo ?_)
  have hQ := fun f hf => h f hf
  first
    | exact wpAny_bind (wpAny_pure (wpAny_pure ⟨.none, rfl, wpAny_pure (hQ _ (hsel _ fun p => rfl))⟩))
    | exact wpAny_pure ⟨.none, rfl, wpAny_pure (hQ _ (hsel _ fun p => rfl))⟩
end
section
variable {X : Cx} {o e : Expr} {to te : TE} {p2 tpos pos : Pos}
/-- del xs[a:] -/
def tDelFrom (to te : TE) : TS := fun D σ H => to σ H fun x H1 => te σ H1 fun y H2 => ∃ (l : Addr) (xs : List V) (a : Nat), x = .ref l ∧ y = .int (a : Int) ∧ H2 l = some (.lst xs) ∧ a ≤ xs.length ∧ D.nx σ (upd H2 l (.lst (xs.take a)))
theorem ps_delFrom (ho : PE X o to) (he : PE X e te) : PS X (.Delete [.Subscript o (.Slice (some e) none none p2) tpos] pos) (tDelFrom to te) := by
  refine ⟨fun pins s σ H D I h => ?_⟩
  refine wpAny_Delete (wpAny_deleteEach_cons (wpAny_delete_Subscript (thn (ho.run pins s σ H _ I h) fun u s1 ⟨x, H1, I1, rx, q1⟩ => wpAny_Slice ?_)))
  rw [evalPart_some, evalPart_none]
  refine thn (he.run pins s1 σ H1 _ I1 q1) fun iv s2 ⟨y, H2, I2, ry, l, xs, a, ex, ey, hl, hle, q2⟩ => ?_
  subst ex ey
  cases rx
  obtain ⟨t, rfl⟩ := (show ∃ t, iv = Value.int a t from ry)
  refine wpAny_pure (wpAny_pure ?_)
  have I3 : Inv X pins σ H2 { s2 with heap := s2.heap.push { cls := .type "slice", data := .fields #[.int a t, .none, .none] } } := I2.kept (t' := s2.toks) fun b ob q => Heap.get?_push_of_some _ q
  obtain ⟨z1, its, n, r1, hl1, e1⟩ := I3.lstM hl
  refine del_from_raw (a := a) e1 (Heap.IsSliceOf.new ..) (.int _ _) (by rw [List.size_toArray]; omega) (by rw [List.size_toArray]; omega) fun f hf => ?_
  refine wpAny_deleteEach_nil ⟨σ, _, ?_, q2⟩
  refine I3.lset (its' := its.take a) (t' := s2.toks) hl e1 ?_ (r1.take a) (by rw [List.length_take]; omega)
  rw [hf]
end
/-! ### xs.extend(t) of a list and a tuple -/
theorem ext_tup (l : Addr) (X : Array Value) (n : Nat) (b : Addr) (Y : Array Value) (n2 : Nat) (dct : Option Addr) (sl : Array (Option Value)) (h0 : ¬ (!X.isEmpty && Builtin.List.listTooLong (X.size + Y.size)) = true) (h1 : X.size ≤ sizeLine) (h2 : X.size + Y.size ≤ sizeLine + 1) :
    Meets (Builtin.«list.extend» ⟨[.ref l, .ref b], []⟩) (fun _ R s => s.heap.get? l = some { cls := .type "list", data := .seq X n } ∧ s.heap.get? b = some { cls := .type "tuple", dict := dct, data := .seq Y n2, slots := sl } ∧
      R (.ok (.ret Value.none)) { s with heap := s.heap.update l (Obj.mapSeq fun x => x ++ Y) }) :=
  .of_wp fun prog w A R s h => by
    obtain ⟨hp, g, d, tk, os⟩ := s
    obtain ⟨hl, hb, h⟩ := h
    have f1 := AutoSeq1.idx_int
    have f2 := AutoSeq1.sub_tuple_tuple
    have f3 := AutoSeq1.sub_list_list
    have f4 := AutoSeq1.sub_tuple_list
    have f5 := AutoSeq1.sub_list_tuple
    have hz : (X ++ Y).size ≤ sizeLine + 1 := by rw [Array.size_append]; exact h2
    wp_walk using (wpAny_updateSeq hl rfl (hz := h1) (_hz' := hz)), AutoSeq1.wpAny_loadPart' hl, AutoSeq1.wpAny_loadPart' hb
    exact ⟨_, rfl, h⟩
def rExtendT (K : PySem.W.Frag) : V → List V → Hp → VK → Prop := fun x vs H Q => ∃ l b xs zs, x = .ref l ∧ vs = [.ref b] ∧ H l = some (.lst xs) ∧ SqT K H b zs ∧ xs.length + zs.length ≤ sizeLine ∧ Q .non (upd H l (.lst (xs ++ zs)))
section
variable {X : Cx}
theorem mt_extendT : MtM X "list.extend" (rExtendT X.K) := by
  intro pins s σ H x vs v us Q I rx rv h
  obtain ⟨l, b, xs, zs, rfl, rfl, hH, hB, hz, q⟩ := h
  cases rx
  obtain ⟨u, rfl, ru⟩ := rv.one
  cases ru
  obtain ⟨z, its, n, r, hl, e⟩ := I.lstM hH
  obtain ⟨its2, r2, ⟨⟨c2, dd2, dt2, sl2⟩, e2, hc2, n2, hd2⟩, z2⟩ := I.tuple hB
  have hl2 := r2.length
  obtain rfl : c2 = .type "tuple" := hc2
  obtain rfl : dt2 = .seq its2.toArray n2 := hd2
  have fit : its.toArray.size + its2.toArray.size ≤ sizeLine := by rw [List.size_toArray, List.size_toArray]; omega
  have nl : ¬ (!its.toArray.isEmpty && Builtin.List.listTooLong (its.toArray.size + its2.toArray.size)) = true := by
    rw [notLongL fit, Bool.and_false]; exact Bool.false_ne_true
  refine call_meets F.slot_list_extend ⟨_, e, rfl⟩ F.entry_list_extend (F.args_list_extend_2 _ _) (ext_tup l its.toArray n b its2.toArray n2 dd2 sl2 nl (by rw [List.size_toArray]; omega) (by omega)) ⟨e, e2, ?_⟩
  exact ⟨.non, _, I.lset (its' := its ++ its2) hH e (by simp) (r.append r2) (by rw [List.length_append]; omega), rfl, q⟩
end

/-! ### zip of a list and a tuple, of any lengths -/
theorem tupIter_at {h h' : Heap} {q l : Addr} {i : Nat} (x : h.IsTupleIter q l i) (e : ∀ o, h.get? q = some o → h'.get? q = some o) : h'.IsTupleIter q l i := by
  obtain ⟨o, ho, hc, hd⟩ := x; exact ⟨o, e _ ho, hc, hd⟩
theorem tup_at {h h' : Heap} {l : Addr} {X : Array Value} (x : h.IsTuple l X) (e : ∀ o, h.get? l = some o → h'.get? l = some o) : h'.IsTuple l X := by
  obtain ⟨o, ho, r⟩ := x; exact ⟨o, e _ ho, r⟩
section
variable {prog : Program} {w : World} {A : Around} {E : Value → Shared → Prop} {s : Shared}
/-- what a turn leaves: all but the objects of the zip at n (its two iterators, the pair that it hands out, itself) -/
def KeptM (n : Nat) (h h' : Heap) : Prop := ∀ c o, c < n ∨ c = n + 2 ∨ n + 4 < c → h.get? c = some o → h'.get? c = some o
theorem zm_item {n l1 l2 k : Nat} {X1 X2 : Array Value} {x1 x2 a b : Value} {Q : Value → Shared → Prop} (b1 : l1 < n) (b2 : l2 < n)
    (hz : IsZip s.heap (n + 4) (n + 2) (n + 3) .none) (hti : IsPair s.heap (n + 2) (.ref n) (.ref (n + 1))) (hto : IsPair s.heap (n + 3) a b)
    (i1 : s.heap.IsListIter n l1 k) (i2 : s.heap.IsTupleIter (n + 1) l2 k) (L1 : s.heap.IsList l1 X1) (L2 : s.heap.IsTuple l2 X2) (e1 : X1[k]? = some x1) (e2 : X2[k]? = some x2)
    (hQ : ∀ h', IsZip h' (n + 4) (n + 2) (n + 3) (rawInt s.heap.objs.size) → IsPair h' (n + 3) x1 x2 → h'.IsListIter n l1 (k + 1) → h'.IsTupleIter (n + 1) l2 (k + 1) →
      IsPair h' s.heap.objs.size x1 x2 → h'.objs.size = s.heap.objs.size + 1 → KeptM n s.heap h' → Q (.ref s.heap.objs.size) { s with heap := h' }) :
    wpAny (model prog w) A (Builtin.«zip.__next__» ⟨[.ref (n + 4)], []⟩) (fun fin s' => ∃ v, fin = .done (.ret v) ∧ Q v s') E s := by
  show wpAny _ _ (field (.ref (n + 4)) 2 >>= _) _ _ _
  refine wpAny_bind (wpAny_field hz rfl (x := .bool false) rfl ?_)
  show wpAny _ _ (field (.ref (n + 4)) 3 >>= _) _ _ _
  refine wpAny_bind (wpAny_field hz rfl (x := .ref (n + 2)) rfl ?_)
  refine wpAny_bind (wpAny_seqItems hti rfl ?_)
  show wpAny _ _ (Builtin.SmallTypes.ownedTupleIsFree (.ref (n + 4)) >>= _) _ _ _
  refine wpAny_bind ?_
  unfold Builtin.SmallTypes.ownedTupleIsFree
  refine wpAny_bind (wpAny_field hz rfl (x := .none) rfl (wpAny_pure ?_))
  simp only [if_true]
  refine wpAny_bind (wpAny_rule ?_)
  refine wpAny_bind (wpAny_field hz rfl (x := .ref (n + 3)) rfl ?_)
  refine wpAny_bind (wpAny_setField_rec hz (by simp) fun g0 z0 s0 => ?_)
  replace z0 : IsZip g0 (n + 4) (n + 2) (n + 3) .ellipsis := z0
  have k0 : ∀ c o, c ≠ n + 4 → s.heap.get? c = some o → g0.get? c = some o := fun c o h e => s0.extBut _ _ h e
  refine wpAny_bind ?_
  simp only [List.zipIdx_cons, List.zipIdx_nil, List.forIn_cons, List.forIn_nil]
  -- the list
  refine wpAny_bind (wpAny_bind (wpAny_onRaise ?_))
  show wpAny _ _ (Builtin.SmallTypes.nextOf (.ref n) >>= _) _ _ _
  refine wpAny_bind (wpAny_nextOf_list_item (i1.at fun o e => k0 _ o (by show (_ : Nat) ≠ _; omega) e) (L1.at fun o e => k0 _ o (by show (_ : Nat) ≠ _; omega) e) e1 fun g1 j1 s1 => wpAny_pure ?_)
  have k1 : ∀ c o, c ≠ n + 4 → c ≠ n → s.heap.get? c = some o → g1.get? c = some o := fun c o h h2 e => s1.extBut _ _ h2 (k0 c o h e)
  have t1 : IsPair g1 (n + 3) a b := k1 _ _ (by show (_ : Nat) ≠ _; omega) (by show (_ : Nat) ≠ _; omega) hto
  refine wpAny_bind (wpAny_seqItems t1 rfl ?_)
  refine wpAny_bind (wpAny_updateSeq_pair t1 fun g2 t2 s2 => ?_)
  replace t2 : IsPair g2 (n + 3) x1 b := t2
  have k2 : ∀ c o, c ≠ n + 4 → c ≠ n → c ≠ n + 3 → s.heap.get? c = some o → g2.get? c = some o := fun c o h h2 h3 e => s2.extBut _ _ h3 (k1 c o h h2 e)
  refine wpAny_bind (wpAny_letGo (wpAny_pure ?_))
  -- the tuple
  refine wpAny_bind (wpAny_bind (wpAny_onRaise ?_))
  show wpAny _ _ (Builtin.SmallTypes.nextOf (.ref (n + 1)) >>= _) _ _ _
  refine wpAny_bind (wpAny_nextOf_tuple_item (tupIter_at i2 fun o e => k2 _ o (by show (_ : Nat) ≠ _; omega) (by show (_ : Nat) ≠ _; omega) (by show (_ : Nat) ≠ _; omega) e) (tup_at L2 fun o e => k2 _ o (by show (_ : Nat) ≠ _; omega) (by show (_ : Nat) ≠ _; omega) (by show (_ : Nat) ≠ _; omega) e) e2 fun g3 j3 s3 => wpAny_pure ?_)
  have t3 : IsPair g3 (n + 3) x1 b := s3.extBut _ _ (by show (_ : Nat) ≠ _; omega) t2
  refine wpAny_bind (wpAny_seqItems t3 rfl ?_)
  refine wpAny_bind (wpAny_updateSeq_pair t3 fun g4 t4 s4 => ?_)
  replace t4 : IsPair g4 (n + 3) x1 x2 := t4
  have k4 : ∀ c o, c ≠ n + 4 → c ≠ n → c ≠ n + 3 → c ≠ n + 1 → s.heap.get? c = some o → g4.get? c = some o := fun c o h h2 h3 h4 e => s4.extBut _ _ h3 (s3.extBut _ _ h4 (k2 c o h h2 h3 e))
  refine wpAny_bind (wpAny_letGo (wpAny_pure (wpAny_pure ?_)))
  refine wpAny_bind (wpAny_seqItems t4 rfl ?_)
  refine wpAny_bind (wpAny_newTuple ?_)
  have hsz : g4.objs.size = s.heap.objs.size := by rw [s4.1, s3.1, s2.1, s1.1, s0.1]
  have z4 : IsZip g4 (n + 4) (n + 2) (n + 3) .ellipsis := s4.extBut _ _ (by show (_ : Nat) ≠ _; omega) (s3.extBut _ _ (by show (_ : Nat) ≠ _; omega) (s2.extBut _ _ (by show (_ : Nat) ≠ _; omega) (s1.extBut _ _ (by show (_ : Nat) ≠ _; omega) z0)))
  have m1 : g4.IsListIter n l1 (k + 1) := j1.at fun o e => s4.extBut _ _ (by show (_ : Nat) ≠ _; omega) (s3.extBut _ _ (by show (_ : Nat) ≠ _; omega) (s2.extBut _ _ (by show (_ : Nat) ≠ _; omega) e))
  have m2 : g4.IsTupleIter (n + 1) l2 (k + 1) := tupIter_at j3 fun o e => s4.extBut _ _ (by show (_ : Nat) ≠ _; omega) e
  have lz : n + 4 < g4.objs.size := Heap.lt_size z4
  show wpAny _ _ (Builtin.SmallTypes.ownedTupleHandOut (.ref (n + 4)) (.ref g4.objs.size) >>= _) _ _ _
  refine wpAny_bind ?_
  unfold Builtin.SmallTypes.ownedTupleHandOut
  have z9 : IsZip (g4.push { cls := .type "tuple", data := .seq #[x1, x2] }) (n + 4) (n + 2) (n + 3) .ellipsis := Heap.get?_push_of_some _ z4
  refine wpAny_bind (wpAny_setField_rec z9 (by simp) fun ga za sa => ?_)
  replace za : IsZip ga (n + 4) (n + 2) (n + 3) (rawInt g4.objs.size) := za
  refine wpAny_setField_rec za (by simp) fun gb zb sb => ?_
  replace zb : IsZip gb (n + 4) (n + 2) (n + 3) (rawInt g4.objs.size) := zb
  have up : ∀ c o, c ≠ n + 4 → g4.get? c = some o → gb.get? c = some o := fun c o h e => sb.extBut _ _ h (sa.extBut _ _ h (Heap.get?_push_of_some _ e))
  have tb : IsPair gb g4.objs.size x1 x2 := sb.extBut _ _ (by show (_ : Nat) ≠ _; omega) (sa.extBut _ _ (by show (_ : Nat) ≠ _; omega) (Heap.get?_push_size _ rfl))
  have hb : gb.objs.size = g4.objs.size + 1 := by rw [sb.1, sa.1, Heap.size_push]
  rw [hsz] at zb tb hb
  refine wpAny_pure ⟨_, rfl, ?_⟩
  show Q (.ref g4.objs.size) _
  rw [hsz]
  refine hQ gb zb (up _ _ (by show (_ : Nat) ≠ _; omega) t4) (m1.at fun o e => up _ o (by show (_ : Nat) ≠ _; omega) e) (tupIter_at m2 fun o e => up _ o (by show (_ : Nat) ≠ _; omega) e) tb hb fun c o h x => ?_
  exact up c o (by show (_ : Nat) ≠ _; omega) (k4 c o (by show (_ : Nat) ≠ _; omega) (by show (_ : Nat) ≠ _; omega) (by show (_ : Nat) ≠ _; omega) (by show (_ : Nat) ≠ _; omega) x)
theorem zm_end {n l1 l2 k : Nat} {X1 X2 : Array Value} {a b : Value} {Q : Fin → Shared → Prop} (hh : A.handled = none) (b1 : l1 < n) (b2 : l2 < n)
    (hz : IsZip s.heap (n + 4) (n + 2) (n + 3) .none) (hti : IsPair s.heap (n + 2) (.ref n) (.ref (n + 1))) (hto : IsPair s.heap (n + 3) a b)
    (i1 : s.heap.IsListIter n l1 k) (i2 : s.heap.IsTupleIter (n + 1) l2 k) (L1 : s.heap.IsList l1 X1) (L2 : s.heap.IsTuple l2 X2) (he : X1[k]? = none ∨ X2[k]? = none)
    (hE : ∀ h' e, KeptM n s.heap h' → (∃ o, h'.get? e = some o ∧ o.cls = .type "StopIteration") → E (.ref e) { s with heap := h' }) :
    wpAny (model prog w) A (Builtin.«zip.__next__» ⟨[.ref (n + 4)], []⟩) Q E s := by
  show wpAny _ _ (field (.ref (n + 4)) 2 >>= _) _ _ _
  refine wpAny_bind (wpAny_field hz rfl (x := .bool false) rfl ?_)
  show wpAny _ _ (field (.ref (n + 4)) 3 >>= _) _ _ _
  refine wpAny_bind (wpAny_field hz rfl (x := .ref (n + 2)) rfl ?_)
  refine wpAny_bind (wpAny_seqItems hti rfl ?_)
  show wpAny _ _ (Builtin.SmallTypes.ownedTupleIsFree (.ref (n + 4)) >>= _) _ _ _
  refine wpAny_bind ?_
  unfold Builtin.SmallTypes.ownedTupleIsFree
  refine wpAny_bind (wpAny_field hz rfl (x := .none) rfl (wpAny_pure ?_))
  simp only [if_true]
  refine wpAny_bind (wpAny_rule ?_)
  refine wpAny_bind (wpAny_field hz rfl (x := .ref (n + 3)) rfl ?_)
  refine wpAny_bind (wpAny_setField_rec hz (by simp) fun g0 z0 s0 => ?_)
  replace z0 : IsZip g0 (n + 4) (n + 2) (n + 3) .ellipsis := z0
  have k0 : ∀ c o, c ≠ n + 4 → s.heap.get? c = some o → g0.get? c = some o := fun c o h e => s0.extBut _ _ h e
  refine wpAny_bind ?_
  simp only [List.zipIdx_cons, List.zipIdx_nil, List.forIn_cons, List.forIn_nil]
  refine wpAny_bind (wpAny_bind (wpAny_onRaise ?_))
  show wpAny _ _ (Builtin.SmallTypes.nextOf (.ref n) >>= _) _ _ _
  have i1' := i1.at (h' := g0) fun o e => k0 _ o (by show (_ : Nat) ≠ _; omega) e
  have L1' := L1.at (h' := g0) fun o e => k0 _ o (by show (_ : Nat) ≠ _; omega) e
  cases e1 : X1[k]? with
  | none =>
    refine wpAny_bind (wpAny_nextOf_list_end hh i1' L1' e1 fun g1 e s1 he => ?_)
    obtain ⟨oe, hoe, hce⟩ := he
    have z1 : IsZip g1 (n + 4) (n + 2) (n + 3) .ellipsis := s1 _ _ (by show (_ : Nat) ≠ _; omega) z0
    have hez : e ≠ n + 4 := fun x => by subst x; rw [z1] at hoe; cases hoe; simp at hce
    refine wpAny_setField_rec z1 (by simp) fun g2 _ s2 => hE g2 e (fun c o h x => s2.extBut _ _ (by show (_ : Nat) ≠ _; omega) (s1 _ _ (by show (_ : Nat) ≠ _; omega) (k0 _ _ (by omega) x))) ⟨oe, s2.extBut _ _ hez hoe, hce⟩
  | some x1 =>
    have e2 : X2[k]? = none := by rcases he with h | h; rw [e1] at h; cases h; exact h
    refine wpAny_bind (wpAny_nextOf_list_item i1' L1' e1 fun g1 j1 s1 => wpAny_pure ?_)
    have k1 : ∀ c o, c ≠ n + 4 → c ≠ n → s.heap.get? c = some o → g1.get? c = some o := fun c o h h2 e => s1.extBut _ _ h2 (k0 c o h e)
    have t1 : IsPair g1 (n + 3) a b := k1 _ _ (by show (_ : Nat) ≠ _; omega) (by show (_ : Nat) ≠ _; omega) hto
    refine wpAny_bind (wpAny_seqItems t1 rfl ?_)
    refine wpAny_bind (wpAny_updateSeq_pair t1 fun g2 t2 s2 => ?_)
    have k2 : ∀ c o, c ≠ n + 4 → c ≠ n → c ≠ n + 3 → s.heap.get? c = some o → g2.get? c = some o := fun c o h h2 h3 e => s2.extBut _ _ h3 (k1 c o h h2 e)
    have z2 : IsZip g2 (n + 4) (n + 2) (n + 3) .ellipsis := s2.extBut _ _ (by show (_ : Nat) ≠ _; omega) (s1.extBut _ _ (by show (_ : Nat) ≠ _; omega) z0)
    refine wpAny_bind (wpAny_letGo (wpAny_pure ?_))
    refine wpAny_bind (wpAny_bind (wpAny_onRaise ?_))
    show wpAny _ _ (Builtin.SmallTypes.nextOf (.ref (n + 1)) >>= _) _ _ _
    refine wpAny_bind (wpAny_nextOf_tuple_end hh (tupIter_at i2 fun o e => k2 _ o (by show (_ : Nat) ≠ _; omega) (by show (_ : Nat) ≠ _; omega) (by show (_ : Nat) ≠ _; omega) e) (tup_at L2 fun o e => k2 _ o (by show (_ : Nat) ≠ _; omega) (by show (_ : Nat) ≠ _; omega) (by show (_ : Nat) ≠ _; omega) e) e2 fun g3 e s3 he => ?_)
    obtain ⟨oe, hoe, hce⟩ := he
    have z3 : IsZip g3 (n + 4) (n + 2) (n + 3) .ellipsis := s3 _ _ (by show (_ : Nat) ≠ _; omega) z2
    have hez : e ≠ n + 4 := fun x => by subst x; rw [z3] at hoe; cases hoe; simp at hce
    refine wpAny_setField_rec z3 (by simp) fun g4 _ s4 => hE g4 e (fun c o h x => s4.extBut _ _ (by show (_ : Nat) ≠ _; omega) (s3 _ _ (by show (_ : Nat) ≠ _; omega) (k2 _ _ (by omega) (by omega) (by omega) x))) ⟨oe, s4.extBut _ _ hez hoe, hce⟩
theorem zm_next {n l1 l2 k : Nat} {X1 X2 : Array Value} {x1 x2 a b : Value} {Q : Option Value → Shared → Prop} (b1 : l1 < n) (b2 : l2 < n)
    (hz : IsZip s.heap (n + 4) (n + 2) (n + 3) .none) (hti : IsPair s.heap (n + 2) (.ref n) (.ref (n + 1))) (hto : IsPair s.heap (n + 3) a b)
    (i1 : s.heap.IsListIter n l1 k) (i2 : s.heap.IsTupleIter (n + 1) l2 k) (L1 : s.heap.IsList l1 X1) (L2 : s.heap.IsTuple l2 X2) (e1 : X1[k]? = some x1) (e2 : X2[k]? = some x2)
    (hQ : ∀ h', IsZip h' (n + 4) (n + 2) (n + 3) (rawInt s.heap.objs.size) → IsPair h' (n + 3) x1 x2 → h'.IsListIter n l1 (k + 1) → h'.IsTupleIter (n + 1) l2 (k + 1) →
      IsPair h' s.heap.objs.size x1 x2 → h'.objs.size = s.heap.objs.size + 1 → KeptM n s.heap h' → Q (some (.ref s.heap.objs.size)) { s with heap := h' }) :
    wpAny (model prog w) A (pyNext (.ref (n + 4))) Q E s := by
  have hT : s.TypeIs (.ref (n + 4)) "zip" := ⟨_, hz, rfl⟩
  unfold pyNext
  exact wpAny_bind (wpAny_attempt (wpAny_callSpecial?_slot (name := Str.ofString "__next__") hT F.slot_zip_next (wpAny_call_entry F.slot_zip_next hT F.entry_zip_next
    (zm_item b1 b2 hz hti hto i1 i2 L1 L2 e1 e2 fun h' q1 q2 q3 q4 q5 q6 q7 => wpAny_pure (hQ h' q1 q2 q3 q4 q5 q6 q7)) (F.args_zip_next_1 _))))
theorem zm_stop {n l1 l2 k : Nat} {X1 X2 : Array Value} {a b : Value} {Q : Option Value → Shared → Prop} (hh : A.handled = none) (b1 : l1 < n) (b2 : l2 < n)
    (hz : IsZip s.heap (n + 4) (n + 2) (n + 3) .none) (hti : IsPair s.heap (n + 2) (.ref n) (.ref (n + 1))) (hto : IsPair s.heap (n + 3) a b)
    (i1 : s.heap.IsListIter n l1 k) (i2 : s.heap.IsTupleIter (n + 1) l2 k) (L1 : s.heap.IsList l1 X1) (L2 : s.heap.IsTuple l2 X2) (he : X1[k]? = none ∨ X2[k]? = none)
    (hQ : ∀ h', KeptM n s.heap h' → Q none { s with heap := h' }) : wpAny (model prog w) A (pyNext (.ref (n + 4))) Q E s := by
  have hT : s.TypeIs (.ref (n + 4)) "zip" := ⟨_, hz, rfl⟩
  unfold pyNext
  refine wpAny_bind (wpAny_attempt (wpAny_callSpecial?_slot (name := Str.ofString "__next__") hT F.slot_zip_next (wpAny_call_entry F.slot_zip_next hT F.entry_zip_next
    (zm_end hh b1 b2 hz hti hto i1 i2 L1 L2 he fun h' e hk he => ?_) (F.args_zip_next_1 _))))
  obtain ⟨o, ho, hc⟩ := he
  refine wpAny_bind (wpAny_isInstance (T := "StopIteration") (b := true) ⟨o, ho, hc⟩ isSubtype_stop ?_)
  exact wpAny_pure (hQ _ hk)
end
theorem tm_call (a b : Value) : checkTypeCall "zip" ⟨[a, b], []⟩ = pure () := by kernel_rfl
theorem tm_new (a b : Value) : checkBuiltinCall "zip.__new__" ⟨[.type "zip", a, b], []⟩ = pure () := by kernel_rfl
theorem tm_init (o a b : Value) : argsOk "object.__init__" ⟨[o, a, b], []⟩ := by
  unfold argsOk; rw [signature?_of (id := "object.__init__") (n := ['_', '_', 't', 'i', 'n', 'i', '_', '_']) (o := ['t', 'c', 'e', 'j', 'b', 'o']) (by kernel_rfl) F.owner_object]; kernel_rfl
/-- the heaps on the way of zip(l, t) -/
abbrev ym1 (l : Addr) : Obj := { cls := .type "list_iterator", data := .fields #[.ref l, .int 0 0] }
abbrev ym2 (l : Addr) : Obj := { cls := .type "tuple_iterator", data := .fields #[.ref l, .int 0 0] }
abbrev yA (h : Heap) (l1 l2 : Addr) : Heap := (h.push (ym1 l1)).push (ym2 l2)
abbrev yB (h : Heap) (l1 l2 : Addr) : Heap := (yA h l1 l2).push { cls := .type "tuple", data := .seq #[.ref h.objs.size, .ref (h.push (ym1 l1)).objs.size] }
abbrev yC (h : Heap) (l1 l2 : Addr) : Heap := (yB h l1 l2).push { cls := .type "tuple", data := .seq #[.none, .none] }
abbrev yD (h : Heap) (l1 l2 : Addr) : Heap := (yC h l1 l2).push { cls := .type "zip", data := .fields #[.none, .bool false, .bool false, .ref (yA h l1 l2).objs.size, .ref (yB h l1 l2).objs.size] }
theorem zm_new (l1 l2 : Addr) (X1 X2 : Array Value) :
    Meets (Builtin.«zip.__new__» ⟨[.type "zip", .ref l1, .ref l2], []⟩) (fun _ R s => s.heap.IsList l1 X1 ∧ s.heap.IsTuple l2 X2 ∧ R (.ok (.ret (.ref (yC s.heap l1 l2).objs.size))) { s with heap := yD s.heap l1 l2 }) :=
  .of_wp fun prog w A R s h => by
    obtain ⟨hp, g, d, tk, os⟩ := s; obtain ⟨L1, L2, h⟩ := h
    have hsub := sub_zip
    have M1 : Heap.IsList (Shared.heap ⟨hp, g, d, tk, os⟩) l1 X1 := L1
    have M2 : Heap.IsTuple (Shared.heap ⟨hp.push (ym1 l1), g, d, tk, os⟩) l2 X2 := tup_at L2 fun o e => Heap.get?_push_of_some _ e
    wp_walk using wpAny_pyIter_list M1, wpAny_pyIter_tuple M2
    exact ⟨_, rfl, h⟩
section
variable {prog : Program} {w : World} {A : Around} {E : Value → Shared → Prop} {s : Shared}
theorem zm_make {l1 l2 : Addr} {X1 X2 : Array Value} {Q : Value → Shared → Prop} (L1 : s.heap.IsList l1 X1) (L2 : s.heap.IsTuple l2 X2)
    (h : ∀ (n : Nat) (h' : Heap), n = s.heap.objs.size → IsZip h' (n + 4) (n + 2) (n + 3) .none → IsPair h' (n + 2) (.ref n) (.ref (n + 1)) → IsPair h' (n + 3) .none .none →
      h'.IsListIter n l1 0 → h'.IsTupleIter (n + 1) l2 0 → (∀ c o, s.heap.get? c = some o → h'.get? c = some o) → Q (.ref (n + 4)) { s with heap := h' }) :
    wpAny (model prog w) A (call (.type "zip") [.ref l1, .ref l2]) Q E s := by
  refine callType_new F.called_zip (by decide) (tm_call _ _) (tm_new _ _) (fun obj => tm_init obj _ _) F.entry_zip_new (zm_new l1 l2 X1 X2) ⟨L1, L2, ?_⟩
  generalize en : s.heap.objs.size = n at h
  have y1 : (s.heap.push (ym1 l1)).objs.size = n + 1 := by rw [Heap.size_push, en]
  have y2 : (yA s.heap l1 l2).objs.size = n + 2 := by rw [Heap.size_push, y1]
  have y3 : (yB s.heap l1 l2).objs.size = n + 3 := by rw [Heap.size_push, y2]
  have y4 : (yC s.heap l1 l2).objs.size = n + 4 := by rw [Heap.size_push, y3]
  have g4 : (yD s.heap l1 l2).get? (yC s.heap l1 l2).objs.size = some _ := Heap.get?_push_size _ rfl
  have g3 : (yD s.heap l1 l2).get? (yB s.heap l1 l2).objs.size = some _ := Heap.get?_push_of_some _ (Heap.get?_push_size _ rfl)
  have g2 : (yD s.heap l1 l2).get? (yA s.heap l1 l2).objs.size = some _ := Heap.get?_push_of_some _ (Heap.get?_push_of_some _ (Heap.get?_push_size _ rfl))
  have g1 : (yD s.heap l1 l2).get? (s.heap.push (ym1 l1)).objs.size = some _ := Heap.get?_push_of_some _ (Heap.get?_push_of_some _ (Heap.get?_push_of_some _ (Heap.get?_push_size _ rfl)))
  have g0 : (yD s.heap l1 l2).get? s.heap.objs.size = some _ := Heap.get?_push_of_some _ (Heap.get?_push_of_some _ (Heap.get?_push_of_some _ (Heap.get?_push_of_some _ (Heap.get?_push_size _ rfl))))
  show _ ∧ _
  rw [y4, y3, y2] at g4
  rw [y3] at g3
  rw [y2, en, y1] at g2
  rw [y1] at g1
  rw [en] at g0
  rw [y4]
  exact ⟨⟨_, g4, rfl⟩, h n _ rfl g4 g2 g3 ⟨_, g0, rfl, rfl⟩ ⟨_, g1, rfl, rfl⟩ fun c o x => Heap.get?_push_of_some _ (Heap.get?_push_of_some _ (Heap.get?_push_of_some _ (Heap.get?_push_of_some _ (Heap.get?_push_of_some _ x))))⟩
end
theorem out5 {q n : Nat} (h : q ∉ [n, n + 1, n + 2, n + 3, n + 4]) : q < n ∨ q = n + 2 ∨ n + 4 < q := by simp at h; omega
theorem in5 {q n : Nat} (h : q ∈ [n, n + 1, n + 2, n + 3, n + 4]) : n ≤ q ∧ q ≤ n + 4 := by simp at h; omega
/-- a list and a tuple as they stand at each turn, the items in new pairs -/
def ItM (K : PySem.W.Frag) (a b : Addr) : It :=
  ⟨fun i H => ∃ (xs ys : List V) (x y : V), SqL K H a xs ∧ SqT K H b ys ∧ xs[i]? = some x ∧ ys[i]? = some y,
    fun i H v H' => ∃ T x y, v = .ref T ∧ H T = none ∧ H' = upd H T (.tup [x, y]) ∧ (∀ l, SqL K H a l → l[i]? = some x) ∧ ∀ l, SqT K H b l → l[i]? = some y,
    fun i H => ∃ xs ys : List V, SqL K H a xs ∧ SqT K H b ys ∧ (xs.length ≤ i ∨ ys.length ≤ i)⟩
theorem turn_zm {P : Program} {w : World} {K : PySem.W.Frag} {elts : List Expr} {kk : Nat} {tpos : Pos} {a b n : Nat} (b1 : a < n) (b2 : b < n) :
    Turn P w K (.Tuple elts kk tpos) (ItM K a b) [n, n + 1, n + 2, n + 3, n + 4] (n + 4) (fun i h => IsZip h (n + 4) (n + 2) (n + 3) .none ∧ IsPair h (n + 2) (.ref n) (.ref (n + 1)) ∧ (∃ x y, IsPair h (n + 3) x y) ∧ h.IsListIter n a i ∧ h.IsTupleIter (n + 1) b i) where
  mem := by simp
  obj := fun i h st q hq => by
    obtain ⟨hz, hTI, ⟨x, y, hTO⟩, ⟨o1, e1, _, d1⟩, ⟨o2, e2, _, d2⟩⟩ := st
    have e' : q = n ∨ q = n + 1 ∨ q = n + 2 ∨ q = n + 3 ∨ q = n + 4 := by simpa using hq
    rcases e' with r | r | r | r | r
    · rw [r]; exact ⟨o1, e1, fun v m => by rw [d1] at m; cases m⟩
    · rw [r]; exact ⟨o2, e2, fun v m => by rw [d2] at m; cases m⟩
    · rw [r]; exact ⟨_, hTI, fun v m => nomatch m⟩
    · rw [r]; exact ⟨_, hTO, fun v m => nomatch m⟩
    · rw [r]; exact ⟨_, hz, fun v m => nomatch m⟩
  keep := fun i h h' st k => by
    obtain ⟨hz, hTI, ⟨x, y, hTO⟩, j1, j2⟩ := st
    exact ⟨k _ (by simp) _ hz, k _ (by simp) _ hTI, ⟨x, y, k _ (by simp) _ hTO⟩, j1.at fun o q => k _ (by simp) o q, tupIter_at j2 fun o q => k _ (by simp) o q⟩
  item := by
    intro X hP hw hK hc i pins s σ H E I hf st hg
    subst hP hw hK
    obtain ⟨hz, hTI, ⟨x0, y0, hTO⟩, j1, j2⟩ := st
    obtain ⟨xs, ys, x, y, qx, qy, hx, hy⟩ := hg
    obtain ⟨t1, r1, p1, _⟩ := I.list qx
    obtain ⟨t2, r2, p2, _⟩ := I.tuple qy
    obtain ⟨v1, w1, y1⟩ := r1.get hx
    obtain ⟨v2, w2, y2⟩ := r2.get hy
    have hzl : n + 4 < s.heap.objs.size := Heap.lt_size hz
    refine zm_next b1 b2 hz hTI hTO j1 j2 p1.isList p2 (x1 := v1) (x2 := v2) (by simpa using w1) (by simpa using w2) fun h' z' TO' i1 i2 hT hsz hk => ?_
    refine ⟨_, rfl, wpAny_letOwnedTupleGo_zip (s := { s with heap := h' }) z' fun h'' z'' sb => ?_⟩
    have hT2 : h''.get? s.heap.objs.size = some { cls := .type "tuple", data := .seq #[v1, v2] } := (sb.2 _ (Nat.ne_of_gt hzl)).trans hT
    have new : ObjOk X.prog X.w (upd H s.heap.objs.size (.tup [x, y])) h'' s.heap.objs.size (.tup [x, y]) := ⟨by show 2 ≤ sizeLine; decide, [v1, v2], .cons y1 (.cons y2 .nil), ⟨_, hT2, rfl, _, rfl⟩⟩
    have I1 : Inv X pins σ (upd H s.heap.objs.size (.tup [x, y])) { s with heap := h'' } :=
      I.turnedNew (t' := s.toks) (ch := [n, n + 1, n + 2, n + 3, n + 4]) (fun q o hb m => (sb.2 q (fun m' => hb (by simp [m']))).trans (hk q o (out5 hb) m)) hf (Nat.le_refl _) new
    refine ⟨.ref s.heap.objs.size, _, I1, rfl, ⟨_, x, y, rfl, I.hok.fresh (Nat.le_refl _), rfl, fun l hl => by rw [I.list_inj hl qx]; exact hx, fun l hl => by rw [I.tuple_inj hl qy]; exact hy⟩, ⟨z'', ?_, ⟨v1, v2, ?_⟩, ?_, ?_⟩, fun q hq => ?_⟩
    · exact (sb.2 _ (by show (_ : Nat) ≠ _; omega)).trans (hk _ _ (.inr (.inl rfl)) hTI)
    · exact (sb.2 _ (by show (_ : Nat) ≠ _; omega)).trans TO'
    · exact i1.at fun o m => (sb.2 _ (by show (_ : Nat) ≠ _; omega)).trans m
    · exact tupIter_at i2 fun o m => (sb.2 _ (by show (_ : Nat) ≠ _; omega)).trans m
    · have hlt : q ≠ s.heap.objs.size := Nat.ne_of_lt (Nat.lt_of_le_of_lt (in5 hq).2 hzl)
      rw [upd_ne hlt]
      exact (hf q hq).1
  done := by
    intro X hP hw hK hc i pins s σ H E I hf st hg
    subst hP hw hK
    obtain ⟨hz, hTI, ⟨x0, y0, hTO⟩, j1, j2⟩ := st
    obtain ⟨xs, ys, qx, qy, hend⟩ := hg
    obtain ⟨t1, r1, p1, _⟩ := I.list qx
    obtain ⟨t2, r2, p2, _⟩ := I.tuple qy
    have ll := r1.length
    have l2 := r2.length
    have he : t1.toArray[i]? = none ∨ t2.toArray[i]? = none := by
      rcases hend with q | q
      · exact .inl (by simp; omega)
      · exact .inr (by simp; omega)
    exact zm_stop (I.ok.hd hc) b1 b2 hz hTI hTO j1 j2 p1.isList p2 he fun h' hk => ⟨rfl, I.turnedL (t' := s.toks) (ch := [n, n + 1, n + 2, n + 3, n + 4]) (fun q o hb m => hk q o (out5 hb) m) hf⟩
  self := fun A i s Q E st h => wpAny_pyIter_zip st.1 h
def iZipM (K : PySem.W.Frag) (ta : TA) : TI := fun σ H R => ta σ H fun vs H1 => ∃ a b xs ys, vs = [.ref a, .ref b] ∧ SqL K H1 a xs ∧ SqT K H1 b ys ∧ R (ItM K a b) H1
theorem pi_zipM {X : Cx} {e e2 : Expr} {ta : TA} {p pos tpos : Pos} {elts : List Expr} {kk : Nat} (hg : Gl X "zip") (hm : X.mg "zip" = none) (ha : PA X [e, e2] ta)
    (hs : starEach [e, e2] X.env = (false, eval e X.env) :: starEach [e2] X.env := by rfl) (hpl : (backTo pos (starEach [e2] X.env)).any (·.1) = false := by rfl) :
    PI X (.Tuple elts kk tpos) (.Call (.Name "zip" p) [e, e2] [] pos) (iZipM X.K ta) := by
  refine ⟨fun pins s σ H R I h => ?_⟩
  refine Call_ (ld_blt I hg hm PyProof.Rows.boot_zip (PyProof.Rows.callWith_type1 (thn (ha.run pos pins s σ H _ I h) fun us s1 ⟨vl, H1, I1, rl, a, b, xs, ys, ex, qx, qy, q⟩ => ?_) hs hpl))
  subst ex
  cases rl with
  | cons ra rr =>
    cases rr with
    | cons rb rr =>
      cases rr
      cases ra
      cases rb
      obtain ⟨t1, r1, p1, _⟩ := I1.list qx
      obtain ⟨t2, r2, p2, _⟩ := I1.tuple qy
      obtain ⟨o2, ho2, _⟩ := id p2
      refine zm_make p1.isList p2 fun n h' en hz hTI hTO i1 i2 hk => wpAny_pyIter_zip hz ?_
      refine ⟨n + 4, [n, n + 1, n + 2, n + 3, n + 4], _, _, H1, rfl, I1.kept (t' := s1.toks) hk, turn_zm (by rw [en]; exact p1.lt) (by rw [en]; exact Heap.lt_size ho2), ⟨hz, hTI, ⟨_, _, hTO⟩, i1, i2⟩, fun q hq => ?_, q⟩
      have hle : s1.heap.objs.size ≤ q := by rw [← en]; exact (in5 hq).1
      exact I1.fpOk hle (I1.hok.fresh hle)
/-- a loop over zip(xs, ys) of a list and a tuple: m is the shorter one's length -/
theorem for_zipM {K : PySem.W.Frag} {a b : Addr} {xs ys : List V} {g : TG} {tb : TS} {nx : L2.St → Hp → Prop} {rt : VK} {σ : L2.St} {H : Hp} (Pv : Nat → L2.St → Hp → Prop) (h0 : Pv 0 σ H) (hq : ∀ i σ H, Pv i σ H → SqL K H a xs ∧ SqT K H b ys)
    (hs : ∀ (i : Nat) (x y : V) (T : Addr) (σ : L2.St) (H : Hp), xs[i]? = some x → ys[i]? = some y → Pv i σ H → H T = none → g (.ref T) σ (upd H T (.tup [x, y])) fun σ2 H2 => tb { nx := Pv (i + 1), rt := rt, ct := Pv (i + 1), bk := nx } σ2 H2) (hd : ∀ σ H, Pv (min xs.length ys.length) σ H → nx σ H) :
    ∃ W : Nat → Nat → L2.St → Hp → Prop, (∃ m, W 0 m σ H) ∧ ∀ i m σ H, W i m σ H → ((ItM K a b).stop i H ∧ nx σ H) ∨ ((ItM K a b).go i H ∧ ∃ N : L2.St → Hp → Prop, (∀ σ' H', N σ' H' → ∃ m', m' < m ∧ W (i + 1) m' σ' H') ∧
      ∀ v H', (ItM K a b).yld i H v H' → g v σ H' fun σ2 H2 => tb { nx := N, rt := rt, ct := N, bk := nx } σ2 H2) := by
  refine ⟨fun i r σ H => r = min xs.length ys.length - i ∧ i ≤ min xs.length ys.length ∧ Pv i σ H, ⟨_, rfl, Nat.zero_le _, h0⟩, ?_⟩
  rintro i _ σ H ⟨rfl, hi, p⟩
  obtain ⟨qx, qy⟩ := hq i σ H p
  by_cases hlt : i < min xs.length ys.length
  · have e1 : xs[i]? = some xs[i] := List.getElem?_eq_getElem (by omega)
    have e2 : ys[i]? = some ys[i] := List.getElem?_eq_getElem (by omega)
    refine .inr ⟨⟨xs, ys, _, _, qx, qy, e1, e2⟩, Pv (i + 1), fun σ' H' p' => ⟨min xs.length ys.length - (i + 1), by omega, rfl, hlt, p'⟩, fun v H' y => ?_⟩
    obtain ⟨T, x', y', rfl, hT, rfl, f1, f2⟩ := y
    exact hs i x' y' T σ H (f1 xs qx) (f2 ys qy) p hT
  · have e : i = min xs.length ys.length := by omega
    subst e
    exact .inl ⟨⟨xs, ys, qx, qy, by omega⟩, hd σ H p⟩

/-! ### the check of a body, as a function -/
abbrev Kd := Option Str
/-- the shape of a block -/
inductive Shp | none | kind (k : Str) | idx (n : Nat)
/-- an instruction -/
inductive Ins
  | i0 (name : Str)
  | i1 (name : Str) (n : Int)
  | i2 (name : Str) (n m : Int)
  | brt (ls : List Nat) (d : Nat)
  | blk (name : Str) (sh : Shp) (body : List Ins)
  | ifb (sh : Shp) (b1 b2 : List Ins)
  | tryb (sh : Shp) (cs : List (Option Nat × Nat)) (body : List Ins)
/-- what stands still while a body is walked -/
structure Ctx where
  slots : List Str
  results : List Str
  sigs : List (List Str × List Str)
  funs : List Nat
  tags : List Nat
  heads : List (Str × Bool)
  tabs : Nat
  mems : Nat
structure Lv where
  floor : Nat
  buried : Bool
  loose : Bool
/-- what changes -/
structure Wk where
  held : List Kd
  levels : List Lv
  seen : List (List Kd × Bool)
  labels : List (List Str)
def isDead (ls : List Lv) : Bool := match ls.getLast? with
  | some l => l.loose || l.buried
  | none => false
def agr (a b : Kd) : Bool := match a, b with
  | none, _ => true
  | _, none => true
  | some x, some y => decide (x = y)
/-- do the topmost kinds agree -/
def agAll : List Kd → List Kd → Bool
  | a :: r, b :: q => agr a b && agAll r q
  | _, _ => true
def topLv (w : Wk) : Lv := w.levels.getLast?.getD ⟨0, false, false⟩
def needs (w : Wk) (ks : List Kd) : Bool :=
  let own := w.held.drop (topLv w).floor
  !(decide (own.length < ks.length) && !(topLv w).loose) && agAll own.reverse ks.reverse
def takes (w : Wk) (ks : List Kd) : Wk := { w with held := w.held.take (w.held.length - min ks.length (w.held.length - (topLv w).floor)) }
def loosen (w : Wk) : Wk := { w with held := w.held.take (topLv w).floor, levels := w.levels.dropLast ++ [{ topLv w with loose := true }] }
abbrev kmm : Str := "kind mismatch"
def oSome (ks : List Str) : List Kd := ks.map some
def i32K : List Kd := [some "i32"]
abbrev Out := Wk × Option Str
def bnd (x : Out) (f : Wk → Out) : Out := match x with
  | (w, none) => f w
  | (w, some e) => (w, some e)
def ok1 (w : Wk) : Out := (w, none)
def er1 (w : Wk) (e : Str) : Out := (w, some e)
/-- beyond these bounds nothing is said -/
abbrev qq : Str := "?"
def putO (w : Wk) (ks : List Kd) : Out := if w.held.length + ks.length ≤ 5000 then ok1 { w with held := w.held ++ ks } else er1 w qq
def enterO (w : Wk) (ps : List Str) : Out := if w.levels.length < 1000 then putO { w with levels := w.levels ++ [⟨w.held.length, isDead w.levels, false⟩] } (oSome ps) else er1 w qq
def markO (w : Wk) : Out := if w.seen.length < 5000 then ok1 { w with seen := w.seen ++ [(w.held, isDead w.levels)] } else er1 w qq
def okLv (w : Wk) : Bool := match w.levels.getLast? with
  | some l => decide (l.floor ≤ w.held.length)
  | none => false
def needO (w : Wk) (ks : List Kd) : Out := if okLv w = true then (if needs w ks = true then ok1 w else er1 w kmm) else er1 w qq
def takeO (w : Wk) (ks : List Kd) : Out := bnd (needO w ks) fun w => ok1 (takes w ks)
/-- the label so many blocks out -/
def labelOf (w : Wk) (n : Nat) : Option (List Str) := if n < w.labels.length then w.labels[w.labels.length - 1 - n]? else none
def funOf (c : Ctx) (n : Nat) : Option (List Str × List Str) := (c.funs[n]?).bind (c.sigs[·]?)
def tagOf (c : Ctx) (n : Nat) : Option (List Str) := ((c.tags[n]?).bind (c.sigs[·]?)).map (·.1)
def shapeOf (c : Ctx) : Shp → Option (List Str × List Str)
  | .none => some ([], [])
  | .kind k => some ([], [k])
  | .idx n => c.sigs[n]?
def orE {α : Type} (e : Str) : Option α → Except Str α
  | some x => .ok x
  | none => .error e
abbrev Eff := List Kd × List Kd
/-- what the instructions with one number take and give -/
def eff1 (c : Ctx) (w : Wk) (nm : Str) (n : Nat) : Except Str Eff :=
  if nm = "i32.const" then .ok ([], i32K) else
  if nm = "i64.const" then .ok ([], [some "i64"]) else
  if nm = "local.get" then (orE "unknown local" (c.slots[n]?)).map (fun k => ([], [some k])) else
  if nm = "local.set" then (orE "unknown local" (c.slots[n]?)).map (fun k => ([some k], [])) else
  if nm = "local.tee" then (orE "unknown local" (c.slots[n]?)).map (fun k => ([some k], [some k])) else
  if nm = "global.get" then (orE "unknown global" (c.heads[n]?)).map (fun h => ([], [some h.1])) else
  if nm = "global.set" then (orE "unknown global" (c.heads[n]?)).bind (fun h => if h.2 = true then .ok ([some h.1], []) else .error "global is immutable") else
  if nm = "br" then (orE "unknown label" (labelOf w n)).map (fun ks => (oSome ks, [])) else
  if nm = "br_if" then (orE "unknown label" (labelOf w n)).map (fun ks => (oSome ks ++ i32K, oSome ks)) else
  if nm = "call" then (orE "unknown function" (funOf c n)).map (fun s => (oSome s.1, oSome s.2)) else
  if nm = "throw" then (orE "unknown tag" (tagOf c n)).map (fun ks => (oSome ks, [])) else .error qq
/-- numeric instructions: nothing is said (k30 and others put their own row here) -/
def effN (_nm : Str) : Except Str Eff := .error qq
def eff0 (c : Ctx) (nm : Str) : Except Str Eff :=
  if nm = "return" then .ok (oSome c.results, []) else
  if nm = "nop" then .ok ([], []) else
  if nm = "unreachable" then .ok ([], []) else
  if nm = "drop" then .ok ([none], []) else
  if nm = "memory.size" then (if c.mems = 0 then .error "unknown memory" else .ok ([], i32K)) else
  if nm = "memory.grow" then (if c.mems = 0 then .error "unknown memory" else .ok (i32K, i32K)) else
  if nm = "memory.fill" then (if c.mems = 0 then .error "unknown memory" else .ok (i32K ++ i32K ++ i32K, [])) else
  if nm = "memory.copy" then (if c.mems = 0 then .error "unknown memory" else .ok (i32K ++ i32K ++ i32K, [])) else effN nm
/-- loads and stores: name, greatest exponent, kind, is it a load -/
def accT : List (Str × Nat × Str × Bool) := [("i32.load", 2, "i32", true), ("i64.load", 3, "i64", true), ("i32.load8_s", 0, "i32", true), ("i32.load8_u", 0, "i32", true), ("i32.load16_s", 1, "i32", true), ("i32.load16_u", 1, "i32", true),
  ("i64.load8_s", 0, "i64", true), ("i64.load8_u", 0, "i64", true), ("i64.load16_s", 1, "i64", true), ("i64.load16_u", 1, "i64", true), ("i64.load32_s", 2, "i64", true), ("i64.load32_u", 2, "i64", true),
  ("i32.store", 2, "i32", false), ("i64.store", 3, "i64", false), ("i32.store8", 0, "i32", false), ("i32.store16", 1, "i32", false), ("i64.store8", 0, "i64", false), ("i64.store16", 1, "i64", false), ("i64.store32", 2, "i64", false)]
def eff2 (c : Ctx) (nm : Str) (n m : Nat) : Except Str Eff :=
  if nm = "call_indirect" then (if c.tabs ≤ m then .error "unknown table" else (orE "unknown signature" (c.sigs[n]?)).map (fun s => (oSome s.1 ++ i32K, oSome s.2))) else
  match accT.find? (fun r => decide (r.1 = nm)) with
  | none => .error qq
  | some r => if c.mems = 0 then .error "unknown memory" else if r.2.1 < n then .error "alignment too large" else if r.2.2.2 = true then .ok (i32K, [some r.2.2.1]) else .ok (i32K ++ [some r.2.2.1], [])
def runEff (w : Wk) : Except Str Eff → Out
  | .error e => er1 w e
  | .ok (t, g) => if t.length ≤ 5000 then bnd (takeO w t) fun w => putO w g else er1 w qq
/-- one of any kind -/
def takeAny (w : Wk) : Wk × Except Str Kd := match needO w [none] with
  | (w, some e) => (w, .error e)
  | (w, none) => if w.held.length = (topLv w).floor then (w, .ok none) else ({ w with held := w.held.dropLast }, .ok (w.held.getLast?.getD none))
def anyO (w : Wk) (f : Wk → Kd → Out) : Out := match takeAny w with
  | (w, .error e) => er1 w e
  | (w, .ok u) => f w u
def chooseO (w : Wk) : Out := bnd (takeO w i32K) fun w => anyO w fun w u => anyO w fun w l => if agr l u = true then putO w [if l.isNone then u else l] else er1 w kmm
def tableO (w : Wk) (rows : List (List Str)) (n : Nat) : List (List Str) → Out
  | [] => ok1 w
  | ks :: r => if ks.length = n then bnd (needO w (oSome ks)) fun w => tableO w rows n r else er1 w kmm
def labelsOf (w : Wk) : List Nat → Option (List (List Str))
  | [] => some []
  | n :: r => (labelOf w n).bind fun ks => (labelsOf w r).map (ks :: ·)
/-- a label that isn't there: nothing is said -/
def tblO (w : Wk) (ls : List Nat) (d : Nat) : Out := match labelsOf w (ls ++ [d]) with
  | none => er1 w qq
  | some rows => if ls.length ≤ 1000 then bnd (takeO w i32K) fun w => tableO w rows (rows.head?.getD []).length rows else er1 w qq
def kdsOk (ks : List Str) : Bool := ks.all fun k => decide (k = "i32") || decide (k = "i64")
def tagT (c : Ctx) : Option Nat → Option (List Str)
  | none => some []
  | some t => tagOf c t
def catch1 (c : Ctx) (w : Wk) (t : Option Nat) (l : Nat) (r : Out) : Out := match labelOf w l with
  | none => er1 w "unknown label"
  | some ks => match tagT c t with
    | none => er1 w "unknown tag"
    | some cs => if (kdsOk ks && kdsOk cs) = true then (if ks = cs then r else er1 w kmm) else er1 w qq
def catchO (c : Ctx) (w : Wk) : List (Option Nat × Nat) → Out
  | [] => ok1 w
  | r :: q => catch1 c w r.1 r.2 (catchO c w q)
def loosing (nm : Str) : Bool := decide (nm = "br") || decide (nm = "br_table") || decide (nm = "return") || decide (nm = "throw") || decide (nm = "unreachable")
def loosenIf (nm : Str) (x : Out) : Out := bnd x fun w => if loosing nm = true then (if okLv w = true then ok1 (loosen w) else er1 w qq) else ok1 w
/-- the bodies of a block -/
def bodiesO (rec : Wk → List Ins → List Str → List Str → List Str → Out) (ps rs lb : List Str) : Wk → List (List Ins) → Out
  | w, [] => ok1 w
  | w, b :: r => bnd (rec w b ps rs lb) fun w => bodiesO rec ps rs lb w r
def shpOkB : Shp → Bool
  | .kind k => decide (k = "i32") || decide (k = "i64")
  | _ => true
def blockO (rec : Wk → List Ins → List Str → List Str → List Str → Out) (c : Ctx) (w : Wk) (nm : Str) (sh : Shp) (cs : List (Option Nat × Nat)) (bs : List (List Ins)) : Out := if shpOkB sh = true then match shapeOf c sh with
  | none => er1 w "unknown signature"
  | some (ps, rs) => bnd (if nm = "if" then takeO w i32K else ok1 w) fun w => bnd (takeO w (oSome ps)) fun w => bnd (catchO c w cs) fun w => bnd (bodiesO rec ps rs (if nm = "loop" then ps else rs) w bs) fun w => putO w (oSome rs)
  else er1 w qq
def cstB (nm : Str) : Bool := decide (nm = "i32.const") || decide (nm = "i64.const")
def insO (rec : Wk → List Ins → List Str → List Str → List Str → Out) (c : Ctx) (w : Wk) : Ins → Out
  | .i0 nm => if nm = "select" then chooseO w else loosenIf nm (runEff w (eff0 c nm))
  | .i1 nm n => if 0 ≤ n ∨ cstB nm = true then loosenIf nm (runEff w (eff1 c w nm n.toNat)) else er1 w qq
  | .i2 nm n m => if 0 ≤ n ∧ 0 ≤ m then runEff w (eff2 c nm n.toNat m.toNat) else er1 w qq
  | .brt ls d => loosenIf "br_table" (tblO w ls d)
  | .blk nm sh b => if nm = "block" ∨ nm = "loop" then blockO rec c w nm sh [] [b] else er1 w qq
  | .ifb sh b1 b2 => blockO rec c w "if" sh [] [b1, b2]
  | .tryb sh cs b => blockO rec c w "try_table" sh cs [b]
def listO (f : Wk → Ins → Out) : Wk → List Ins → Out
  | w, [] => ok1 w
  | w, i :: r => bnd (markO w) fun w => bnd (f w i) fun w => listO f w r
def leaveO (w : Wk) (rs : List Str) : Out := bnd (takeO w (oSome rs)) fun w => if (topLv w).floor < w.held.length then er1 w kmm else ok1 { w with levels := w.levels.dropLast }
def bodyO : Nat → Ctx → Wk → List Ins → List Str → List Str → List Str → Out
  | 0, _, w, _, _, _, _ => er1 w qq
  | d + 1, c, w, is, ps, rs, lb => if w.labels.length < 1000 ∧ is.length ≤ 100000 ∧ ps.length ≤ 1000 ∧ rs.length ≤ 1000 ∧ lb.length ≤ 1000 then bnd (enterO { w with labels := w.labels ++ [lb] } ps) fun w => bnd (listO (insO (bodyO d c) c) w is) fun w => bnd (markO w) fun w => bnd (leaveO w rs) fun w => if 0 < w.labels.length then ok1 { w with labels := w.labels.dropLast } else er1 w qq else er1 w qq
def walkO (d : Nat) (c : Ctx) (is : List Ins) : Out := bodyO d c ⟨[], [], [], []⟩ is [] c.results c.results

/-! ### kinds, and the stack of kinds -/
theorem newO {H H' : Hp} {p : Addr} {o : HO} (h : H p = none) (e : upd H p o = H') : Same H H' ∧ H' p = some o := by subst e; exact ⟨Same.new h, upd_same⟩
theorem ne_lst {H : Hp} {a l : Addr} {o : HO} {xs : List V} (h : H a = some o) (hl : H l = some (.lst xs)) (ho : ∀ ys, o ≠ .lst ys) : a ≠ l := fun e => by
  subst e; rw [hl] at h; cases h; exact ho _ rfl
def kdV : Kd → V
  | none => .non
  | some s => .str s
def kdD : Kd → PyData
  | none => .none
  | some s => .str s
theorem kd_dt {K : PySem.W.Frag} {H : Hp} : ∀ k : Kd, Dt K H (kdV k) (kdD k)
  | none => .non
  | some s => .str s
theorem kd_v {K : PySem.W.Frag} {H : Hp} {v : V} : ∀ {k : Kd}, Dt K H v (kdD k) → v = kdV k
  | none, h => h.vnon
  | some _, h => h.vstr
theorem kds_dt {K : PySem.W.Frag} {H : Hp} : ∀ ks : List Kd, DtA K H (ks.map kdV) (ks.map kdD)
  | [] => .nil
  | k :: r => .cons (kd_dt k) (kds_dt r)
theorem kds_v {K : PySem.W.Frag} {H : Hp} : ∀ {xs : List V} {ks : List Kd}, DtA K H xs (ks.map kdD) → xs = ks.map kdV
  | _, [], .nil => rfl
  | _, _ :: _, .cons h a => by rw [kd_v h, kds_v a]; rfl
/-- a tuple of kinds -/
def Kds (K : PySem.W.Frag) (H : Hp) (t : Addr) (ks : List Kd) : Prop := SqT K H t (ks.map kdV)
theorem Kds.of {K : PySem.W.Frag} {H : Hp} {v : V} {ks : List Kd} (h : Dt K H v (.tuple (ks.map kdD))) : ∃ t, v = .ref t ∧ Kds K H t ks := by
  obtain ⟨t, xs, rfl, hs, ha⟩ := h.vtup
  rw [kds_v ha] at hs
  exact ⟨t, rfl, hs⟩
theorem Kds.dt {K : PySem.W.Frag} {H : Hp} {t : Addr} {ks : List Kd} (h : Kds K H t ks) : Dt K H (.ref t) (.tuple (ks.map kdD)) := .tup h (kds_dt ks)
abbrev lvO (cs : Cs) (dx : Addr) (l : Lv) : HO := .ins cs.C_Level dx (fs_Level (.int (l.floor : Int)) (.bl l.buried) (.bl l.loose))
structure KsAt (cs : Cs) (H : Hp) (ks hl ll : Addr) (las : List Addr) (hd : List Kd) (lv : List Lv) : Prop where
  ob : ∃ dx, H ks = some (.ins cs.C_KindStack dx (fs_KindStack (.ref hl) (.ref ll)))
  he : H hl = some (.lst (hd.map kdV))
  le : H ll = some (.lst (las.map V.ref))
  ne : hl ≠ ll
  len : las.length = lv.length
  at' : ∀ (i : Nat) (l : Lv), lv[i]? = some l → ∃ a dx, las[i]? = some a ∧ H a = some (lvO cs dx l)
  nd : las.Nodup
theorem KsAt.same {cs : Cs} {H H' : Hp} {ks hl ll : Addr} {las : List Addr} {hd : List Kd} {lv : List Lv} (e : Same H H') (h : KsAt cs H ks hl ll las hd lv) : KsAt cs H' ks hl ll las hd lv := by
  obtain ⟨⟨dx, h1⟩, h2, h3, h4, h5, h6, h7⟩ := h
  exact ⟨⟨dx, e _ _ h1⟩, e _ _ h2, e _ _ h3, h4, h5, fun i l q => by obtain ⟨a, dx, e1, e2⟩ := h6 i l q; exact ⟨a, dx, e1, e _ _ e2⟩, h7⟩
theorem KsAt.top {cs : Cs} {H : Hp} {ks hl ll : Addr} {las : List Addr} {hd : List Kd} {lv : List Lv} (h : KsAt cs H ks hl ll las hd lv) {l : Lv} (e : lv.getLast? = some l) : ∃ a dx, las.getLast? = some a ∧ H a = some (lvO cs dx l) := by
  rw [List.getLast?_eq_getElem?] at e
  obtain ⟨a, dx, e1, e2⟩ := h.at' _ _ e
  exact ⟨a, dx, by rw [List.getLast?_eq_getElem?, h.len]; exact e1, e2⟩
theorem at_last {xs : List V} {v : V} (h : xs.getLast? = some v) : atI xs (-1) = some v := by
  obtain ⟨ys, rfl⟩ := List.getLast?_eq_some_iff.mp h
  exact L2.atI_last ys v
def sp_agree (K : PySem.W.Frag) (cs : Cs) : Sp := fun vs H Q _ => ∃ a b : Kd, vs = [kdV a, kdV b] ∧ Q (.bl (agr a b)) H
def sp_Level___init__ (K : PySem.W.Frag) (cs : Cs) : Sp := fun vs H Q _ => ∃ (p dx : Addr) (n : Nat) (b : Bool), vs = [.ref p, .int (n : Int), .bl b] ∧ H p = some (.ins cs.C_Level dx []) ∧ ∀ H', (∃ dx', H' p = some (lvO cs dx' ⟨n, b, false⟩)) → SameBut [p] H H' → Q .non H'
def sp_KindStack___init__ (K : PySem.W.Frag) (cs : Cs) : Sp := fun vs H Q _ => ∃ (p dx : Addr), vs = [.ref p] ∧ H p = some (.ins cs.C_KindStack dx []) ∧ ∀ (hl ll : Addr) H', KsAt cs H' p hl ll [] [] [] → H hl = none → H ll = none → SameBut [p] H H' → Q .non H'
/-- an own error with its reason -/
def Flt (cs : Cs) (H : Hp) (E : XK) (r : Str) : Prop := ∀ d Hf, Same H Hf → Hf d = some (.xd [("reason", .str r)]) → E (.ref cs.C_CodeFault) (some d) Hf
def sp_KindStack_need (K : PySem.W.Frag) (cs : Cs) : Sp := fun vs H Q E => ∃ (ks hl ll t : Addr) (las : List Addr) (w : Wk) (ms : List Kd), vs = [.ref ks, .ref t] ∧ KsAt cs H ks hl ll las w.held w.levels ∧ Kds K H t ms ∧ okLv w = true ∧ w.held.length ≤ 10000 ∧ ms.length ≤ 10000 ∧
  (needs w ms = true → ∀ H', Same H H' → Q .non H') ∧ (needs w ms = false → Flt cs H E kmm)
def sp_KindStack_take (K : PySem.W.Frag) (cs : Cs) : Sp := fun vs H Q E => ∃ (ks hl ll t : Addr) (las : List Addr) (w : Wk) (ms : List Kd), vs = [.ref ks, .ref t] ∧ KsAt cs H ks hl ll las w.held w.levels ∧ Kds K H t ms ∧ okLv w = true ∧ w.held.length ≤ 10000 ∧ ms.length ≤ 10000 ∧
  (needs w ms = true → ∀ H', KsAt cs H' ks hl ll las (takes w ms).held w.levels → SameBut [hl] H H' → Q .non H') ∧ (needs w ms = false → Flt cs H E kmm)
def sp_KindStack_take_any (K : PySem.W.Frag) (cs : Cs) : Sp := fun vs H Q E => ∃ (ks hl ll : Addr) (las : List Addr) (w : Wk), vs = [.ref ks] ∧ KsAt cs H ks hl ll las w.held w.levels ∧ okLv w = true ∧ w.held.length ≤ 10000 ∧
  (needs w [none] = true → w.held.length = (topLv w).floor → ∀ H', KsAt cs H' ks hl ll las w.held w.levels → SameBut [hl] H H' → Q .non H') ∧
  (needs w [none] = true → ¬ w.held.length = (topLv w).floor → ∀ H', KsAt cs H' ks hl ll las w.held.dropLast w.levels → SameBut [hl] H H' → Q (kdV (w.held.getLast?.getD none)) H') ∧ (needs w [none] = false → Flt cs H E kmm)
/-- the topmost level -/
theorem KsAt.lvl {cs : Cs} {H : Hp} {ks hl ll : Addr} {las : List Addr} {w : Wk} (h : KsAt cs H ks hl ll las w.held w.levels) (o : okLv w = true) : ∃ a dx, (las.map V.ref).getLast? = some (V.ref a) ∧ H a = some (lvO cs dx (topLv w)) ∧ (topLv w).floor ≤ w.held.length ∧ las.getLast? = some a := by
  unfold okLv at o
  cases e : w.levels.getLast? with
  | none => rw [e] at o; cases o
  | some l =>
    rw [e] at o
    obtain ⟨a, dx, e1, e2⟩ := h.top e
    have et : topLv w = l := by unfold topLv; rw [e]; rfl
    exact ⟨a, dx, by rw [List.getLast?_map, e1]; rfl, by rw [et]; exact e2, by rw [et]; exact of_decide_eq_true o, e1⟩
/-- another list of kinds in the stack's place -/
theorem KsAt.put {cs : Cs} {H : Hp} {ks hl ll : Addr} {las : List Addr} {hd hd2 : List Kd} {lv : List Lv} (h : KsAt cs H ks hl ll las hd lv) : KsAt cs (upd H hl (.lst (hd2.map kdV))) ks hl ll las hd2 lv := by
  obtain ⟨⟨dx, hob⟩, hhe, hle, hne, hlen, hat, hnd⟩ := h
  exact ⟨⟨dx, (upd_ne (ne_lst hob hhe fun _ z => nomatch z)).trans hob⟩, upd_same, (upd_ne (Ne.symm hne)).trans hle, hne, hlen, fun i l e => by obtain ⟨a, dx2, e1, e2⟩ := hat i l e; exact ⟨a, dx2, e1, (upd_ne (ne_lst e2 hhe fun _ z => nomatch z)).trans e2⟩, hnd⟩
/-- the topmost level is another one -/
theorem KsAt.loose {cs : Cs} {H : Hp} {ks hl ll a dx : Addr} {las : List Addr} {hd : List Kd} {lv : List Lv} {l : Lv} (h : KsAt cs H ks hl ll las hd lv) (el : lv.getLast? = some l) (ea : las.getLast? = some a) (e2 : H a = some (lvO cs dx l)) (l' : Lv) :
    KsAt cs (upd H a (lvO cs dx l')) ks hl ll las hd (lv.dropLast ++ [l']) := by
  obtain ⟨⟨dk, hob⟩, hhe, hle, hne, hlen, hat, hnd⟩ := h
  obtain ⟨lv', rfl⟩ := List.getLast?_eq_some_iff.mp el
  obtain ⟨las', rfl⟩ := List.getLast?_eq_some_iff.mp ea
  rw [List.length_append, List.length_append] at hlen
  have hlen' : las'.length = lv'.length := by simpa using hlen
  rw [List.dropLast_concat]
  have nk : ks ≠ a := fun z => by
    subst z
    rw [hob] at e2
    have := (HO.ins.inj (Option.some.inj e2)).2.2
    simp [fs_KindStack, fs_Level] at this
  refine ⟨⟨dk, (upd_ne nk).trans hob⟩, (upd_ne fun z => ne_lst e2 hhe (fun _ z => nomatch z) z.symm).trans hhe, (upd_ne fun z => ne_lst e2 hle (fun _ z => nomatch z) z.symm).trans hle, hne, by rw [List.length_append, List.length_append, hlen']; rfl, fun i x e => ?_, hnd⟩
  rcases Nat.lt_or_ge i lv'.length with c | c
  · rw [List.getElem?_append_left c] at e
    obtain ⟨b, db, b1, b2⟩ := hat i x (by rw [List.getElem?_append_left c]; exact e)
    have nb : b ≠ a := fun z => by
      subst z
      rw [List.getElem?_append_left (by omega)] at b1
      have m1 := List.mem_of_getElem? b1
      rw [List.nodup_append] at hnd
      exact hnd.2.2 b m1 b (List.mem_singleton.mpr rfl) rfl
    exact ⟨b, db, b1, (upd_ne nb).trans b2⟩
  · have ei : i = lv'.length := by
      have := (List.getElem?_eq_some_iff.mp e).1
      rw [List.length_append] at this
      have : i < lv'.length + 1 := this
      omega
    subst ei
    rw [List.getElem?_append_right (Nat.le_refl _), Nat.sub_self] at e
    cases e
    exact ⟨a, dx, by rw [← hlen', List.getElem?_append_right (Nat.le_refl _), Nat.sub_self]; rfl, upd_same⟩
def sp_KindStack_loosen (K : PySem.W.Frag) (cs : Cs) : Sp := fun vs H Q E => ∃ (ks hl ll : Addr) (las : List Addr) (w : Wk), vs = [.ref ks] ∧ KsAt cs H ks hl ll las w.held w.levels ∧ okLv w = true ∧
  ∀ H', KsAt cs H' ks hl ll las (loosen w).held (loosen w).levels → SameBut (hl :: las) H H' → Q .non H'
/-- a level more -/
theorem KsAt.more {cs : Cs} {H : Hp} {ks hl ll a dx : Addr} {las : List Addr} {hd : List Kd} {lv : List Lv} (h : KsAt cs H ks hl ll las hd lv) {l : Lv} (e2 : H a = some (lvO cs dx l)) (na : a ∉ las) : KsAt cs (upd H ll (.lst ((las ++ [a]).map V.ref))) ks hl ll (las ++ [a]) hd (lv ++ [l]) := by
  obtain ⟨⟨dk, hob⟩, hhe, hle, hne, hlen, hat, hnd⟩ := h
  refine ⟨⟨dk, (upd_ne (ne_lst hob hle fun _ z => nomatch z)).trans hob⟩, (upd_ne hne).trans hhe, upd_same, hne, by rw [List.length_append, List.length_append, hlen]; rfl, fun i x e => ?_, ?_⟩
  · rcases Nat.lt_or_ge i lv.length with c | c
    · rw [List.getElem?_append_left c] at e
      obtain ⟨b, db, b1, b2⟩ := hat i x e
      exact ⟨b, db, by rw [List.getElem?_append_left (by omega)]; exact b1, (upd_ne (ne_lst b2 hle fun _ z => nomatch z)).trans b2⟩
    · have ei : i = lv.length := by
        have := (List.getElem?_eq_some_iff.mp e).1
        rw [List.length_append] at this
        have : i < lv.length + 1 := this
        omega
      subst ei
      rw [List.getElem?_append_right (Nat.le_refl _), Nat.sub_self] at e
      cases e
      exact ⟨a, dx, by rw [List.getElem?_append_right (by omega), hlen, Nat.sub_self]; rfl, (upd_ne (ne_lst e2 hle fun _ z => nomatch z)).trans e2⟩
  · rw [List.nodup_append]
    exact ⟨hnd, by simp, fun x hx y hy => by rw [List.mem_singleton.mp hy]; exact fun z => na (z ▸ hx)⟩
/-- a level less -/
theorem KsAt.less {cs : Cs} {H : Hp} {ks hl ll : Addr} {las : List Addr} {hd : List Kd} {lv : List Lv} (h : KsAt cs H ks hl ll las hd lv) : KsAt cs (upd H ll (.lst (las.dropLast.map V.ref))) ks hl ll las.dropLast hd lv.dropLast := by
  obtain ⟨⟨dk, hob⟩, hhe, hle, hne, hlen, hat, hnd⟩ := h
  refine ⟨⟨dk, (upd_ne (ne_lst hob hle fun _ z => nomatch z)).trans hob⟩, (upd_ne hne).trans hhe, upd_same, hne, by rw [List.length_dropLast, List.length_dropLast, hlen], fun i x e => ?_, (List.dropLast_sublist las).nodup hnd⟩
  rw [List.dropLast_eq_take, List.getElem?_take] at e
  split at e
  · rename_i c
    obtain ⟨b, db, b1, b2⟩ := hat i x e
    refine ⟨b, db, ?_, (upd_ne (ne_lst b2 hle fun _ z => nomatch z)).trans b2⟩
    rw [List.dropLast_eq_take, List.getElem?_take, if_pos (by omega)]
    exact b1
  · cases e
def sp_KindStack_enter (K : PySem.W.Frag) (cs : Cs) : Sp := fun vs H Q E => ∃ (ks hl ll t : Addr) (las : List Addr) (hd ms : List Kd) (lv : List Lv), vs = [.ref ks, .ref t] ∧ KsAt cs H ks hl ll las hd lv ∧ Kds K H t ms ∧ hd.length + ms.length ≤ 10000 ∧ lv.length ≤ 10000 ∧
  ∀ (a : Addr) H', H a = none → KsAt cs H' ks hl ll (las ++ [a]) (hd ++ ms) (lv ++ [⟨hd.length, isDead lv, false⟩]) → SameBut [hl, ll] H H' → Q .non H'
/-- an error when some things have changed -/
def FltB (cs : Cs) (H : Hp) (E : XK) (r : Str) (L : List Addr) : Prop := ∀ d Hf, SameBut L H Hf → Hf d = some (.xd [("reason", .str r)]) → E (.ref cs.C_CodeFault) (some d) Hf
def sp_KindStack_leave (K : PySem.W.Frag) (cs : Cs) : Sp := fun vs H Q E => ∃ (ks hl ll t : Addr) (las : List Addr) (w : Wk) (ms : List Kd), vs = [.ref ks, .ref t] ∧ KsAt cs H ks hl ll las w.held w.levels ∧ Kds K H t ms ∧ okLv w = true ∧ w.held.length ≤ 10000 ∧ ms.length ≤ 10000 ∧
  (needs w ms = true → ¬ (topLv w).floor < (takes w ms).held.length → ∀ H', KsAt cs H' ks hl ll las.dropLast (takes w ms).held w.levels.dropLast → SameBut [hl, ll] H H' → Q .non H') ∧
  ((needs w ms = false ∨ (topLv w).floor < (takes w ms).held.length) → FltB cs H E kmm [hl])
def sp_KindStack_is_dead (K : PySem.W.Frag) (cs : Cs) : Sp := fun vs H Q _ => ∃ (ks hl ll : Addr) (las : List Addr) (hd : List Kd) (lv : List Lv), vs = [.ref ks] ∧ KsAt cs H ks hl ll las hd lv ∧ Q (.bl (isDead lv)) H
def sp_KindStack_shown (K : PySem.W.Frag) (cs : Cs) : Sp := fun vs H Q _ => ∃ (ks hl ll : Addr) (las : List Addr) (hd : List Kd) (lv : List Lv), vs = [.ref ks] ∧ KsAt cs H ks hl ll las hd lv ∧ hd.length ≤ 10000 ∧
  ∀ (t : Addr) (H' : Hp), Same H H' → Dt K H' (.ref t) (.tuple [.tuple (hd.map kdD), .bool (isDead lv)]) → Q (.ref t) H'
def sp_KindStack_put (K : PySem.W.Frag) (cs : Cs) : Sp := fun vs H Q _ => ∃ (ks hl ll t : Addr) (las : List Addr) (hd ms : List Kd) (lv : List Lv), vs = [.ref ks, .ref t] ∧ KsAt cs H ks hl ll las hd lv ∧ Kds K H t ms ∧ hd.length + ms.length ≤ 10000 ∧
  ∀ H', KsAt cs H' ks hl ll las (hd ++ ms) lv → SameBut [hl] H H' → Q .non H'
section
variable {P : Program} {w : World} {K : PySem.W.Frag} {mg : Str → Option Value} {base : Heap} {cs : Cs}
theorem c_KindStack_is_dead (D : DefM K (Cs.C_KindStack cs) "is_dead" "KindStack.is_dead" s_KindStack_is_dead ["self"]) (T : Tp w K mg cs)  : CalM P w K mg base CX0 (Cs.C_KindStack cs) 1 "is_dead" (sp_KindStack_is_dead K cs) := by
  refine D.ok sc_KindStack_is_dead T.cl_KindStack (fun vs H Q E h => ?_) (fun f cdv A outer s H vs Q E hr h => ?_)
  · obtain ⟨ks, hl, ll, las, hd, lv, rfl, _⟩ := h; rfl
  · obtain ⟨ks, hl, ll, las, hd, lv, rfl, hk, q⟩ := h
    have hk0 := hk
    obtain ⟨⟨dx, hob⟩, hhe, hle, hne, hlen, hat, hnd⟩ := hk
    refine ⟨_, (pss_cons (ps_if (pt_cmpR op_eq (pe_callB call_len_seq (by rfl) T.m_len PySem.boot_len (pa_cons (pe_fld (pv 0) rfl) pa_nil)) pe_int (by first | rfl | exact nomark _)) (pss_one (ps_ret pe_bl)) pss_nil)
      (pss_one (ps_ret (pe_or (pe_fld (pe_ix ix_list (pe_fld (pv 0) rfl) (pe_un un_neg pe_int) (fun _ _ => rfl)) rfl) (pe_one (pe_fld (pe_ix ix_list (pe_fld (pv 0) rfl) (pe_un un_neg pe_int) (fun _ _ => rfl)) rfl)))))), ?_⟩
    refine ⟨_, rfl, ks, _, dx, _, _, rfl, hob, T.cl_KindStack, T.n_KindStack_levels, lk_KindStack_levels, ?_⟩
    refine ⟨ll, _, rfl, .inl (SqL.of hle), ?_⟩
    rw [List.length_map, hlen]
    walk_at "go"
    cases el : lv.getLast? with
    | none =>
      have e0 : lv = [] := List.getLast?_eq_none_iff.mp el
      subst e0
      walk_at "go"
      exact q
    | some l =>
      obtain ⟨a, dx2, e1, e2⟩ := hk0.top el
      have hn : ¬ (lv.length : Int) = 0 := fun z => by
        have : lv = [] := List.eq_nil_of_length_eq_zero (by omega)
        subst this; cases el
      refine ifEqN hn ?_
      have e3 : (las.map V.ref).getLast? = some (V.ref a) := by rw [List.getLast?_map, e1]; rfl
      have ed : isDead lv = (l.loose || l.buried) := by unfold isDead; rw [el]
      walk_at "go"
      refine ⟨ks, _, dx, _, _, rfl, hob, T.cl_KindStack, T.n_KindStack_levels, lk_KindStack_levels, ?_⟩
      walk_at "go"
      refine ⟨ll, _, _, _, rfl, rfl, SqL.of hle, at_last e3, ?_⟩
      refine ⟨a, _, dx2, _, _, rfl, e2, T.cl_Level, T.n_Level_loose, lk_Level_loose, ?_⟩
      refine ⟨_, rfl, ?_⟩
      rw [ed] at q
      cases eb : l.loose with
      | true =>
        rw [eb] at q
        exact q
      | false =>
        rw [eb] at q
        refine ⟨_, rfl, ks, _, dx, _, _, rfl, hob, T.cl_KindStack, T.n_KindStack_levels, lk_KindStack_levels, ?_⟩
        walk_at "go"
        refine ⟨ll, _, _, _, rfl, rfl, SqL.of hle, at_last e3, ?_⟩
        refine ⟨a, _, dx2, _, _, rfl, e2, T.cl_Level, T.n_Level_buried, lk_Level_buried, ?_⟩
        exact q
theorem c_agree (D : Def K mg "agree" s_agree ["found", "wanted"]) (T : Tp w K mg cs)  : Cal P w K mg base CX0 1 "agree" (sp_agree K cs) := by
  refine D.ok sc_agree (fun vs H Q E h => ?_) (fun f cdv A outer s H vs Q E hr h => ?_)
  · obtain ⟨a, b, rfl, _⟩ := h; rfl
  · obtain ⟨a, b, rfl, q⟩ := h
    refine ⟨_, (pss_one (ps_ret (pe_or (pe_cmpR op_isN (pv 0) pe_non (by first | rfl | exact nomark _)) (pe_or (pe_cmpR op_isN (pv 1) pe_non (by first | rfl | exact nomark _)) (pe_one (pe_cmpR op_eq (pv 0) (pv 1) (by first | rfl | exact nomark _))))))), ?_⟩
    cases a with
    | none =>
      walk_at "go"
      exact q
    | some x =>
      cases b with
      | none =>
        walk_at "go"
        exact q
      | some y =>
        walk_at "go"
        have e : decide (V.str x = V.str y) = decide (x = y) := by rw [Bool.eq_iff_iff]; simp
        show Q (.bl (decide (V.str x = V.str y))) H
        rw [e]
        exact q
theorem c_Level___init__ (D : DefI K (Cs.C_Level cs) "Level.__init__" s_Level___init__ ["self", "floor", "buried"]) (T : Tp w K mg cs)  : CalI P w K mg base CX0 (Cs.C_Level cs) 1 (sp_Level___init__ K cs) := by
  refine D.ok sc_Level___init__ (fun vs H Q E h => ?_) (fun f cdv A outer s H vs Q E hr h => ?_)
  · obtain ⟨p, dx, n, b, rfl, _⟩ := h; rfl
  · obtain ⟨p, dx, n, b, rfl, hp, q⟩ := h
    refine ⟨_, (pss_cons (ps_fld (pv 0) (pv 1) rfl)
      (pss_cons (ps_fld (pv 0) (pv 2) rfl)
      (pss_one (ps_fld (pv 0) pe_bl rfl)))), ?_⟩
    refine ⟨_, rfl, _, rfl, p, _, dx, _, rfl, hp, T.cl_Level, T.n_Level_floor, (by show 0 < 1000; decide), ?_⟩
    rw [in_Level_0 (x0 := .int (n : Int)) (x1 := .bl b) (x2 := .bl false)]
    refine ⟨_, rfl, _, rfl, p, _, dx, _, rfl, upd_same, T.cl_Level, T.n_Level_buried, (by show 1 < 1000; decide), ?_⟩
    rw [in_Level_1 (x0 := .int (n : Int)) (x1 := .bl b) (x2 := .bl false)]
    refine ⟨_, rfl, p, _, dx, _, rfl, upd_same, T.cl_Level, T.n_Level_loose, (by show 2 < 1000; decide), ?_⟩
    rw [in_Level_2 (x0 := .int (n : Int)) (x1 := .bl b) (x2 := .bl false)]
    have mm : p ∈ [p] := List.mem_singleton.mpr rfl
    exact q _ ⟨dx, upd_same⟩ ((((SameBut.refl _).upd mm).upd mm).upd mm)
theorem c_KindStack___init__ (D : DefI K (Cs.C_KindStack cs) "KindStack.__init__" s_KindStack___init__ ["self"]) (T : Tp w K mg cs)  : CalI P w K mg base CX0 (Cs.C_KindStack cs) 1 (sp_KindStack___init__ K cs) := by
  refine D.ok sc_KindStack___init__ (fun vs H Q E h => ?_) (fun f cdv A outer s H vs Q E hr h => ?_)
  · obtain ⟨p, dx, rfl, _⟩ := h; rfl
  · obtain ⟨p, dx, rfl, hp, q⟩ := h
    refine ⟨_, (pss_cons (ps_fld (pv 0) (pe_lst pa_nil) rfl)
      (pss_one (ps_fld (pv 0) (pe_lst pa_nil) rfl))), ?_⟩
    walk_at "go"
    intro hl hhl
    generalize e1 : upd H hl _ = H1
    obtain ⟨s1, k1⟩ := newO hhl e1
    clear e1
    refine ⟨_, rfl, p, _, dx, _, rfl, s1 _ _ hp, T.cl_KindStack, T.n_KindStack_held, (by show 0 < 1000; decide), ?_⟩
    rw [in_KindStack_0 (x0 := .ref hl) (x1 := .non)]
    walk_at "go"
    intro ll hll
    have nhp : hl ≠ p := fun z => by subst z; rw [hp] at hhl; cases hhl
    have hll1 : H1 ll = none ∧ ll ≠ p := by
      have np : ll ≠ p := fun z => by subst z; rw [upd_same] at hll; cases hll
      exact ⟨by rw [upd_ne np] at hll; exact hll, np⟩
    have nhl : hl ≠ ll := ne_of_none k1 hll1.1
    generalize e2 : upd (upd H1 p _) ll _ = H3
    have kp3 : H3 p = some (.ins cs.C_KindStack dx [("held", .ref hl)]) := by subst e2; rw [upd_ne (Ne.symm hll1.2), upd_same]
    have kh3 : H3 hl = some (.lst []) := by subst e2; rw [upd_ne nhl, upd_ne nhp]; exact k1
    have kl3 : H3 ll = some (.lst []) := by subst e2; rw [upd_same]
    have b3 : SameBut [p] H H3 := fun c o nc e => by
      have cp : c ≠ p := fun z => nc (List.mem_singleton.mpr z)
      subst e2
      have e1 := s1 _ _ e
      rw [upd_ne (ne_of_none e1 hll1.1), upd_ne cp]; exact e1
    clear e2
    refine ⟨_, rfl, p, _, dx, _, rfl, kp3, T.cl_KindStack, T.n_KindStack_levels, (by show 1 < 1000; decide), ?_⟩
    rw [in_KindStack_1 (x0 := .ref hl) (x1 := .ref ll)]
    have mm : p ∈ [p] := List.mem_singleton.mpr rfl
    refine q hl ll _ ⟨⟨dx, upd_same⟩, (upd_ne nhp).trans kh3, (upd_ne hll1.2).trans kl3, nhl, rfl, (fun i l e => by cases i <;> cases e), List.nodup_nil⟩ hhl (none_of s1 hll1.1) (b3.upd mm)
theorem c_KindStack_shown (D : DefM K (Cs.C_KindStack cs) "shown" "KindStack.shown" s_KindStack_shown ["self"]) (T : Tp w K mg cs) (c_KindStack_is_dead : CalM P w K mg base CX0 (Cs.C_KindStack cs) 1 "is_dead" (sp_KindStack_is_dead K cs)) : CalM P w K mg base CX0 (Cs.C_KindStack cs) 2 "shown" (sp_KindStack_shown K cs) := by
  refine D.ok sc_KindStack_shown T.cl_KindStack (fun vs H Q E h => ?_) (fun f cdv A outer s H vs Q E hr h => ?_)
  · obtain ⟨ks, hl, ll, las, hd, lv, rfl, _⟩ := h; rfl
  · obtain ⟨ks, hl, ll, las, hd, lv, rfl, hk, lh, q⟩ := h
    have hk0 := hk
    obtain ⟨⟨dx, hob⟩, hhe, hle, hne, hlen, hat, hnd⟩ := hk
    refine ⟨_, (pss_one (ps_ret (pe_tup (pa_cons (pe_callTy call_tuple_of (by rfl) T.m_tuple (by decide +kernel) (pa_cons (pe_fld (pv 0) rfl) pa_nil)) (pa_cons (pe_mE0 c_KindStack_is_dead hr (by decide) pass0 (pv 0)) pa_nil))))), ?_⟩
    refine ⟨_, rfl, ks, _, dx, _, _, rfl, hob, T.cl_KindStack, T.n_KindStack_held, lk_KindStack_held, ?_⟩
    refine ⟨hl, _, rfl, .inl ⟨SqL.of hhe, fun t ht => ?_⟩⟩
    generalize e1 : upd H t _ = H1
    obtain ⟨s1, d1⟩ := newT (K := K) ht e1 (kds_dt hd)
    clear e1
    walk_at "go"
    refine ⟨ks, dx, _, rfl, s1 _ _ hob, no_KindStack_is_dead, ?_⟩
    refine ⟨ks, hl, ll, las, hd, lv, rfl, hk0.same s1, ?_⟩
    walk_at "go"
    intro t2 ht2
    generalize e2 : upd H1 t2 _ = H2
    obtain ⟨s2, d2⟩ := newT (K := K) ht2 e2 (.cons d1 (.cons (.bl _) .nil))
    exact q t2 H2 (s1.trans s2) d2
theorem c_KindStack_put (D : DefM K (Cs.C_KindStack cs) "put" "KindStack.put" s_KindStack_put ["self", "kinds"]) (T : Tp w K mg cs)  : CalM P w K mg base CX0 (Cs.C_KindStack cs) 1 "put" (sp_KindStack_put K cs) := by
  refine D.ok sc_KindStack_put T.cl_KindStack (fun vs H Q E h => ?_) (fun f cdv A outer s H vs Q E hr h => ?_)
  · obtain ⟨ks, hl, ll, t, las, hd, ms, lv, rfl, _⟩ := h; rfl
  · obtain ⟨ks, hl, ll, t, las, hd, ms, lv, rfl, hk, ht, lh, q⟩ := h
    obtain ⟨⟨dx, hob⟩, hhe, hle, hne, hlen, hat, hnd⟩ := hk
    refine ⟨_, (pss_one (ps_expr (pe_bm PySem.F.plainAttrs_list PySem.F.slot_list_extend PySem.F.type_list_extend mt_extendT (pe_fld (pv 0) rfl) (pa_cons (pv 1) pa_nil)))), ?_⟩
    refine ⟨_, rfl, ks, _, dx, _, _, rfl, hob, T.cl_KindStack, T.n_KindStack_held, lk_KindStack_held, .inl ⟨rfl, _, SqL.of hhe⟩, ?_⟩
    walk_at "go"
    refine ⟨hl, t, _, _, rfl, rfl, hhe, ht, small64 (by rw [List.length_map, List.length_map]; omega), ?_⟩
    generalize e1 : upd H hl _ = H1
    have b1 : SameBut [hl] H H1 := by subst e1; exact (SameBut.refl _).upd (List.mem_singleton.mpr rfl)
    have k1 : H1 hl = some (.lst ((hd ++ ms).map kdV)) := by subst e1; rw [upd_same, List.map_append]
    clear e1
    have c1 : ∀ a o, a ≠ hl → H a = some o → H1 a = some o := fun a o n e => b1 _ _ (fun z => n (List.mem_singleton.mp z)) e
    walk_at "go"
    exact q H1 ⟨⟨dx, c1 _ _ (ne_lst hob hhe fun _ z => nomatch z) hob⟩, k1, c1 _ _ (Ne.symm hne) hle, hne, hlen, fun i l e => by obtain ⟨a, dx2, e1, e2⟩ := hat i l e; exact ⟨a, dx2, e1, c1 _ _ (ne_lst e2 hhe fun _ z => nomatch z) e2⟩, hnd⟩ b1
theorem c_KindStack_need (D : DefM K (Cs.C_KindStack cs) "need" "KindStack.need" s_KindStack_need ["self", "kinds"]) (T : Tp w K mg cs) (c_agree : Cal P w K mg base CX0 1 "agree" (sp_agree K cs)) : CalM P w K mg base (L2.CX P w) (Cs.C_KindStack cs) 3 "need" (sp_KindStack_need K cs) := by
  refine D.okX sc_KindStack_need T.cl_KindStack (fun vs H Q E h => ?_) (fun f cdv A outer s H vs Q E hr h => ?_)
  · obtain ⟨ks, hl, ll, t, las, w', ms, rfl, _⟩ := h; rfl
  · obtain ⟨ks, hl, ll, t, las, w', ms, rfl, hk, ht, hlv, lh, lm, q1, q2⟩ := h
    have hk0 := hk
    obtain ⟨⟨dx, hob⟩, hhe, hle, hne, hlen, hat, hnd⟩ := hk
    obtain ⟨l, el, hfl⟩ : ∃ l, w'.levels.getLast? = some l ∧ l.floor ≤ w'.held.length := by
      unfold okLv at hlv
      cases e : w'.levels.getLast? with
      | none => rw [e] at hlv; cases hlv
      | some l => rw [e] at hlv; exact ⟨l, rfl, of_decide_eq_true hlv⟩
    have etop : topLv w' = l := by unfold topLv; rw [el]; rfl
    obtain ⟨a, dx2, e1, e2⟩ := hk0.top el
    have e3 : (las.map V.ref).getLast? = some (V.ref a) := by rw [List.getLast?_map, e1]; rfl
    refine ⟨_, (pss_cons (ps_set (i := 2) sc_KindStack_need.nd rfl (by first | exact Or.inl rfl | exact Or.inr rfl) (pe_ix ix_list (pe_fld (pv 0) rfl) (pe_un un_neg pe_int) (fun _ _ => rfl)))
      (pss_cons (ps_set (i := 3) sc_KindStack_need.nd rfl (by first | exact Or.inl rfl | exact Or.inr rfl) (pe_slice sl_list (pe_fld (pv 0) rfl) (po_some (pe_fld (pv 2) rfl)) po_none))
      (C8.pss_cut (ps_if (PW.pt (pw_and (pt_cmpR op_lt (pe_callB call_len_seq (by rfl) T.m_len PySem.boot_len (pa_cons (pv 3) pa_nil)) (pe_callB call_len_seq (by rfl) T.m_len PySem.boot_len (pa_cons (pv 1) pa_nil)) (by first | rfl | exact nomark _)) (pw_and1 (pt_not (pt_val (pe_fld (pv 2) rfl)))))) (pss_one (ps_raise rfl (takes_of rfl rfl rfl rfl) (pmk_oex T.e_CodeFault.T T.iC_CodeFault T.tI_CodeFault (in_CodeFault T) (hr.mono (by decide)) T.b_CodeFault .nil pass0 (by rfl) T.e_CodeFault.g (pa_cons pe_str pa_nil)))) pss_nil)
      (pss_one (ps_for (passes_of rfl) rfl (pi_zipM (by rfl) T.m_zip (pa_cons (pe_revL (pv 3)) (pa_cons (pe_revT (pv 1)) pa_nil))) (pg_tup (by rfl) (pgs_cons (pg_name (i := 4) sc_KindStack_need.nd rfl (by first | exact Or.inl rfl | exact Or.inr rfl)) (pgs_cons (pg_name (i := 5) sc_KindStack_need.nd rfl (by first | exact Or.inl rfl | exact Or.inr rfl)) pgs_nil))) (pss_one (ps_if (pt_not (pt_val (pe_c c_agree hr (by decide) (by rfl) (pa_cons (pv 4) (pa_cons (pv 5) pa_nil))))) (pss_one (ps_raise rfl (takes_of rfl rfl rfl rfl) (pmk_oex T.e_CodeFault.T T.iC_CodeFault T.tI_CodeFault (in_CodeFault T) (hr.mono (by decide)) T.b_CodeFault .nil pass0 (by rfl) T.e_CodeFault.g (pa_cons pe_str pa_nil)))) pss_nil))))))), ?_⟩
    refine ⟨_, rfl, ks, _, dx, _, _, rfl, hob, T.cl_KindStack, T.n_KindStack_levels, lk_KindStack_levels, ?_⟩
    walk_at "go"
    refine ⟨ll, _, _, _, rfl, rfl, SqL.of hle, at_last e3, ?_⟩
    walk_at "go"
    refine ⟨ks, _, dx, _, _, rfl, hob, T.cl_KindStack, T.n_KindStack_held, lk_KindStack_held, ?_⟩
    walk_at "go"
    refine ⟨a, _, dx2, _, _, rfl, e2, T.cl_Level, T.n_Level_floor, lk_Level_floor, ?_⟩
    refine ⟨_, rfl, hl, _, rfl, SqL.of hhe, fun own hown => ?_⟩
    rw [cut_from, ← List.map_drop]
    generalize x1 : upd H own _ = H1
    obtain ⟨s1, k1⟩ := newO hown x1
    clear x1
    have ht1 : SqT K H1 t (ms.map kdV) := Same.ti s1 _ _ ht
    have eneed : needs w' ms = (!(decide ((w'.held.drop l.floor).length < ms.length) && !l.loose) && agAll (w'.held.drop l.floor).reverse ms.reverse) := by unfold needs; rw [etop]
    refine ⟨fun σ G => H1 = G ∧ (!(decide ((w'.held.drop l.floor).length < ms.length) && !l.loose)) = true ∧ σ = [some (.ref ks), some (.ref t), some (.ref a), some (.ref own), none, none], ?_, ?_⟩
    · walk_at "go"
      refine ⟨own, _, rfl, .inl (SqL.of k1), ?_⟩
      walk_at "go"
      simp only [List.length_map]
      refine ite2 (fun c => ?_) (fun c => ?_)
      · have c' : (w'.held.drop l.floor).length < ms.length := by have := of_decide_eq_true c; omega
        walk_at "go"
        refine ⟨a, _, dx2, _, _, rfl, s1 _ _ e2, T.cl_Level, T.n_Level_loose, lk_Level_loose, ?_⟩
        refine ⟨_, rfl, ?_⟩
        cases eb : l.loose with
        | true =>
          walk_at "go"
          exact ⟨by rw [Bool.not_true, Bool.and_false]; rfl, rfl⟩
        | false =>
          walk_at "go"
          exact (fly1 (K := K) fun d Hf s2 e => q2 (by rw [eneed, decide_eq_true c', eb]; rfl) d Hf (s1.trans s2) e).2
      · have c' : ¬ (w'.held.drop l.floor).length < ms.length := by have := of_decide_eq_false (Bool.eq_false_iff.mpr c); omega
        walk_at "go"
        exact ⟨by rw [decide_eq_false c']; rfl, rfl⟩
    rintro _ _ ⟨rfl, hc, rfl⟩
    rw [hc, Bool.true_and] at eneed
    walk_at "go"
    refine ⟨own, _, rfl, SqL.of k1, fun r1 hr1 => ?_⟩
    generalize x2 : upd H1 r1 _ = H2
    obtain ⟨s2, k2⟩ := newO hr1 x2
    clear x2
    walk_at "go"
    refine ⟨t, _, rfl, Same.ti s2 _ _ ht1, fun r2 hr2 => ?_⟩
    generalize x3 : upd H2 r2 _ = H3
    obtain ⟨s3, k3⟩ := newO hr2 x3
    clear x3
    rw [← List.map_reverse] at k2 k3
    have k23 := s3 _ _ k2
    generalize (w'.held.drop l.floor).reverse = us at k2 k23 eneed
    generalize ms.reverse = vs at k3 eneed
    refine ⟨r1, r2, _, _, rfl, SqL.of k23, SqT.of k3, for_zipM (xs := us.map kdV) (ys := vs.map kdV) (fun i σ G => Same H3 G ∧ agAll us vs = agAll (us.drop i) (vs.drop i) ∧ ∃ o4 o5, σ = [some (.ref ks), some (.ref t), some (.ref a), some (.ref own), o4, o5]) ⟨Same.refl _, rfl, _, _, rfl⟩ (fun i σ G h => ⟨SqL.of (h.1 _ _ k23), SqT.of (h.1 _ _ k3)⟩) ?_ ?_⟩
    · rintro i x y T0 _ G hx hy ⟨sG, ea, o4, o5, rfl⟩ hT
      obtain ⟨u, eu, rfl⟩ : ∃ u, us[i]? = some u ∧ kdV u = x := by
        rw [List.getElem?_map] at hx
        cases e : us[i]? with
        | none => rw [e] at hx; cases hx
        | some u => rw [e] at hx; cases hx; exact ⟨u, rfl, rfl⟩
      obtain ⟨v, ev, rfl⟩ : ∃ v, vs[i]? = some v ∧ kdV v = y := by
        rw [List.getElem?_map] at hy
        cases e : vs[i]? with
        | none => rw [e] at hy; cases hy
        | some u => rw [e] at hy; cases hy; exact ⟨u, rfl, rfl⟩
      have eg : agAll (us.drop i) (vs.drop i) = (agr u v && agAll (us.drop (i + 1)) (vs.drop (i + 1))) := by
        rw [List.drop_eq_getElem_cons (List.getElem?_eq_some_iff.mp eu).1, List.drop_eq_getElem_cons (List.getElem?_eq_some_iff.mp ev).1, (List.getElem?_eq_some_iff.mp eu).2, (List.getElem?_eq_some_iff.mp ev).2]
        rfl
      generalize x4 : upd G T0 _ = G1
      obtain ⟨s4, k4⟩ := newO hT x4
      clear x4
      refine ⟨T0, _, rfl, SqT.of k4, rfl, ?_⟩
      walk_at "go"
      cases eb : agr u v with
      | true =>
        walk_at "go"
        exact ⟨sG.trans s4, by rw [ea, eg, eb]; rfl, _, _, rfl⟩
      | false =>
        walk_at "go"
        exact (fly1 (K := K) fun d Hf s5 e => q2 (by rw [eneed, ea, eg, eb]; rfl) d Hf (s1.trans (s2.trans (s3.trans (sG.trans (s4.trans s5))))) e).2
    · rintro _ G ⟨sG, ea, o4, o5, rfl⟩
      refine q1 ?_ _ (s1.trans (s2.trans (s3.trans sG)))
      rw [eneed, ea]
      have : ∀ (xs ys : List Kd), agAll (xs.drop (min xs.length ys.length)) (ys.drop (min xs.length ys.length)) = true := fun xs ys => by
        rcases Nat.le_total xs.length ys.length with h | h
        · rw [Nat.min_eq_left h, List.drop_length]; cases ys.drop xs.length <;> rfl
        · rw [Nat.min_eq_right h, List.drop_length]; cases xs.drop ys.length <;> rfl
      rw [List.length_map, List.length_map]
      exact this us vs
theorem c_KindStack_take (D : DefM K (Cs.C_KindStack cs) "take" "KindStack.take" s_KindStack_take ["self", "kinds"]) (T : Tp w K mg cs) (c_KindStack_need : CalM P w K mg base (L2.CX P w) (Cs.C_KindStack cs) 3 "need" (sp_KindStack_need K cs)) : CalM P w K mg base (L2.CX P w) (Cs.C_KindStack cs) 4 "take" (sp_KindStack_take K cs) := by
  refine D.okX sc_KindStack_take T.cl_KindStack (fun vs H Q E h => ?_) (fun f cdv A outer s H vs Q E hr h => ?_)
  · obtain ⟨ks, hl, ll, t, las, w', ms, rfl, _⟩ := h; rfl
  · obtain ⟨ks, hl, ll, t, las, w', ms, rfl, hk, ht, hlv, lh, lm, q1, q2⟩ := h
    obtain ⟨dx, hob⟩ := hk.ob
    refine ⟨_, (pss_cons (ps_expr (pe_mE c_KindStack_need hr (by decide) (passes_call (takes_of rfl rfl rfl rfl) (fun _ _ _ _ h => h)) (pv 0) (pa_cons (pv 1) pa_nil)))
      (pss_cons (ps_set (i := 2) sc_KindStack_take.nd rfl (by first | exact Or.inl rfl | exact Or.inr rfl) (pe_callB (call_min2 rfl) (by rfl) T.m_min (by decide +kernel) (pa_cons (pe_callB call_len_seq (by rfl) T.m_len PySem.boot_len (pa_cons (pv 1) pa_nil)) (pa_cons (pe_op op_sub (pe_callB call_len_seq (by rfl) T.m_len PySem.boot_len (pa_cons (pe_fld (pv 0) rfl) pa_nil)) (pe_fld (pe_ix ix_list (pe_fld (pv 0) rfl) (pe_un un_neg pe_int) (fun _ _ => rfl)) rfl)) pa_nil))))
      (pss_one (ps_delFrom (pe_fld (pv 0) rfl) (pe_op op_sub (pe_callB call_len_seq (by rfl) T.m_len PySem.boot_len (pa_cons (pe_fld (pv 0) rfl) pa_nil)) (pv 2)))))), ?_⟩
    refine ⟨_, rfl, ks, dx, _, rfl, hob, no_KindStack_need, ?_⟩
    walk_at "go"
    refine ⟨ks, hl, ll, t, las, w', ms, rfl, hk, ht, hlv, lh, lm, fun en H1 s1 => ?_, fun en => q2 en⟩
    have hk1 := hk.same s1
    have hob1 := s1 _ _ hob
    have ht1 : SqT K H1 t (ms.map kdV) := Same.ti s1 _ _ ht
    obtain ⟨a, dx2, e3, e2, hfl, _⟩ := hk1.lvl hlv
    walk_at "go"
    refine ⟨ks, _, dx, _, _, rfl, hob1, T.cl_KindStack, T.n_KindStack_held, lk_KindStack_held, ?_⟩
    walk_at "go"
    refine ⟨hl, _, rfl, .inl (SqL.of hk1.he), ?_⟩
    walk_at "go"
    refine ⟨ks, _, dx, _, _, rfl, hob1, T.cl_KindStack, T.n_KindStack_levels, lk_KindStack_levels, ?_⟩
    walk_at "go"
    refine ⟨ll, _, _, _, rfl, rfl, SqL.of hk1.le, at_last e3, ?_⟩
    refine ⟨a, _, dx2, _, _, rfl, e2, T.cl_Level, T.n_Level_floor, lk_Level_floor, ?_⟩
    walk_at "go"
    refine ⟨ks, _, dx, _, _, rfl, hob1, T.cl_KindStack, T.n_KindStack_held, lk_KindStack_held, ?_⟩
    walk_at "go"
    refine ⟨ks, _, dx, _, _, rfl, hob1, T.cl_KindStack, T.n_KindStack_held, lk_KindStack_held, ?_⟩
    walk_at "go"
    refine ⟨hl, _, rfl, .inl (SqL.of hk1.he), ?_⟩
    walk_at "go"
    have ea : (((w'.held.map kdV).length : Int) - (if ((w'.held.map kdV).length : Int) - (topLv w').floor < ((ms.map kdV).length : Int) then ((w'.held.map kdV).length : Int) - (topLv w').floor else ((ms.map kdV).length : Int))) = ((w'.held.length - min ms.length (w'.held.length - (topLv w').floor) : Nat) : Int) := by
      simp only [List.length_map]
      split <;> omega
    refine ⟨hl, _, w'.held.length - min ms.length (w'.held.length - (topLv w').floor), rfl, congrArg V.int ea, hk1.he, by rw [List.length_map]; omega, ?_⟩
    rw [← List.map_take]
    exact q1 en _ (hk1.put (hd2 := (takes w' ms).held)) ((Same.but s1).upd (List.mem_singleton.mpr rfl))
theorem c_KindStack_take_any (D : DefM K (Cs.C_KindStack cs) "take_any" "KindStack.take_any" s_KindStack_take_any ["self"]) (T : Tp w K mg cs) (c_KindStack_need : CalM P w K mg base (L2.CX P w) (Cs.C_KindStack cs) 3 "need" (sp_KindStack_need K cs)) : CalM P w K mg base (L2.CX P w) (Cs.C_KindStack cs) 4 "take_any" (sp_KindStack_take_any K cs) := by
  refine D.okX sc_KindStack_take_any T.cl_KindStack (fun vs H Q E h => ?_) (fun f cdv A outer s H vs Q E hr h => ?_)
  · obtain ⟨ks, hl, ll, las, w', rfl, _⟩ := h; rfl
  · obtain ⟨ks, hl, ll, las, w', rfl, hk, hlv, lh, q1, q2, q3⟩ := h
    obtain ⟨dx, hob⟩ := hk.ob
    refine ⟨_, (pss_cons (ps_expr (pe_mE c_KindStack_need hr (by decide) (passes_call (takes_of rfl rfl rfl rfl) (fun _ _ _ _ h => h)) (pv 0) (pa_cons (pe_tup (pa_cons pe_non pa_nil)) pa_nil)))
      (pss_cons (ps_if (pt_cmpR op_eq (pe_callB call_len_seq (by rfl) T.m_len PySem.boot_len (pa_cons (pe_fld (pv 0) rfl) pa_nil)) (pe_fld (pe_ix ix_list (pe_fld (pv 0) rfl) (pe_un un_neg pe_int) (fun _ _ => rfl)) rfl) (by first | rfl | exact nomark _)) (pss_one (ps_ret pe_non)) pss_nil)
      (pss_one (ps_ret (pe_bm0 PySem.F.plainAttrs_list PySem.F.slot_list_pop PySem.F.type_list_pop mt_pop (pe_fld (pv 0) rfl)))))), ?_⟩
    refine ⟨_, rfl, ks, dx, _, rfl, hob, no_KindStack_need, ?_⟩
    walk_at "go"
    intro t ht
    generalize x1 : upd H t _ = H1
    obtain ⟨s1, k1⟩ := newO ht x1
    clear x1
    have hk1 := hk.same s1
    walk_at "go"
    refine ⟨ks, hl, ll, t, las, w', [none], rfl, hk1, SqT.of k1, hlv, lh, by show 1 ≤ 10000; decide, fun en H2 s2 => ?_, fun en => ?_⟩
    · have hk2 := hk1.same s2
      obtain ⟨dx', hob2⟩ := hk2.ob
      obtain ⟨a, dx2, e3, e2, hfl, _⟩ := hk2.lvl hlv
      have s12 := s1.trans s2
      walk_at "go"
      refine ⟨ks, _, dx', _, _, rfl, hob2, T.cl_KindStack, T.n_KindStack_held, lk_KindStack_held, ?_⟩
      refine ⟨hl, _, rfl, .inl (SqL.of hk2.he), ?_⟩
      walk_at "go"
      refine ⟨ks, _, dx', _, _, rfl, hob2, T.cl_KindStack, T.n_KindStack_levels, lk_KindStack_levels, ?_⟩
      walk_at "go"
      refine ⟨ll, _, _, _, rfl, rfl, SqL.of hk2.le, at_last e3, ?_⟩
      refine ⟨a, _, dx2, _, _, rfl, e2, T.cl_Level, T.n_Level_floor, lk_Level_floor, ?_⟩
      walk_at "go"
      rw [List.length_map]
      by_cases c : w'.held.length = (topLv w').floor
      · refine ifEq (by omega) ?_
        walk_at "go"
        exact q1 en c _ hk2 (Same.but s12)
      · refine ifEqN (by omega) ?_
        walk_at "go"
        refine ⟨ks, _, dx', _, _, rfl, hob2, T.cl_KindStack, T.n_KindStack_held, lk_KindStack_held, .inl ⟨rfl, _, SqL.of hk2.he⟩, ?_⟩
        have hne0 : w'.held ≠ [] := fun z => c (by rw [z] at hfl ⊢; simp at hfl ⊢; omega)
        have elast : (w'.held.map kdV)[(w'.held.map kdV).length - 1]? = some (kdV (w'.held.getLast?.getD none)) := by
          rw [← List.getLast?_eq_getElem?, List.getLast?_map, List.getLast?_eq_some_getLast hne0]; rfl
        refine ⟨hl, _, _, rfl, rfl, hk2.he, elast, ?_⟩
        rw [← List.map_dropLast]
        exact q2 en c _ hk2.put ((Same.but s12).upd (List.mem_singleton.mpr rfl))
    · exact fun d Hf s3 e => q3 en d Hf (s1.trans s3) e
theorem c_KindStack_loosen (D : DefM K (Cs.C_KindStack cs) "loosen" "KindStack.loosen" s_KindStack_loosen ["self"]) (T : Tp w K mg cs)  : CalM P w K mg base CX0 (Cs.C_KindStack cs) 1 "loosen" (sp_KindStack_loosen K cs) := by
  refine D.ok sc_KindStack_loosen T.cl_KindStack (fun vs H Q E h => ?_) (fun f cdv A outer s H vs Q E hr h => ?_)
  · obtain ⟨ks, hl, ll, las, w', rfl, _⟩ := h; rfl
  · obtain ⟨ks, hl, ll, las, w', rfl, hk, hlv, q⟩ := h
    obtain ⟨dx, hob⟩ := hk.ob
    obtain ⟨a, dx2, e3, e2, hfl, ea⟩ := hk.lvl hlv
    have el : w'.levels.getLast? = some (topLv w') := by
      unfold okLv at hlv
      unfold topLv
      cases e : w'.levels.getLast? with
      | none => rw [e] at hlv; cases hlv
      | some l => rfl
    refine ⟨_, (pss_cons (ps_set (i := 1) sc_KindStack_loosen.nd rfl (by first | exact Or.inl rfl | exact Or.inr rfl) (pe_ix ix_list (pe_fld (pv 0) rfl) (pe_un un_neg pe_int) (fun _ _ => rfl)))
      (pss_cons (ps_delFrom (pe_fld (pv 0) rfl) (pe_fld (pv 1) rfl))
      (pss_one (ps_fld (pv 1) pe_bl rfl)))), ?_⟩
    refine ⟨_, rfl, ks, _, dx, _, _, rfl, hob, T.cl_KindStack, T.n_KindStack_levels, lk_KindStack_levels, ?_⟩
    walk_at "go"
    refine ⟨ll, _, _, _, rfl, rfl, SqL.of hk.le, at_last e3, ?_⟩
    walk_at "go"
    refine ⟨ks, _, dx, _, _, rfl, hob, T.cl_KindStack, T.n_KindStack_held, lk_KindStack_held, ?_⟩
    walk_at "go"
    refine ⟨a, _, dx2, _, _, rfl, e2, T.cl_Level, T.n_Level_floor, lk_Level_floor, ?_⟩
    refine ⟨hl, _, (topLv w').floor, rfl, rfl, hk.he, by rw [List.length_map]; exact hfl, ?_⟩
    rw [← List.map_take]
    have hk1 := hk.put (hd2 := w'.held.take (topLv w').floor)
    have nal : a ≠ hl := ne_lst e2 hk.he fun _ z => nomatch z
    generalize x1 : upd H hl _ = H1 at hk1
    have e21 : H1 a = some (lvO cs dx2 (topLv w')) := by subst x1; exact (upd_ne nal).trans e2
    have b1 : SameBut (hl :: las) H H1 := by subst x1; exact (SameBut.refl _).upd (List.mem_cons_self ..)
    clear x1
    walk_at "go"
    refine ⟨a, _, dx2, _, rfl, e21, T.cl_Level, T.n_Level_loose, (by show 3 < 1000; decide), ?_⟩
    rw [pt_Level_loose]
    have hk2 := hk1.loose el ea e21 { topLv w' with loose := true }
    exact q _ hk2 (b1.upd (List.mem_cons_of_mem _ (List.mem_of_getLast? ea)))
theorem c_KindStack_enter (D : DefM K (Cs.C_KindStack cs) "enter" "KindStack.enter" s_KindStack_enter ["self", "params"]) (T : Tp w K mg cs) (c_KindStack_put : CalM P w K mg base CX0 (Cs.C_KindStack cs) 1 "put" (sp_KindStack_put K cs)) (c_Level___init__ : CalI P w K mg base CX0 (Cs.C_Level cs) 1 (sp_Level___init__ K cs)) (c_KindStack_is_dead : CalM P w K mg base CX0 (Cs.C_KindStack cs) 1 "is_dead" (sp_KindStack_is_dead K cs)) : CalM P w K mg base CX0 (Cs.C_KindStack cs) 3 "enter" (sp_KindStack_enter K cs) := by
  refine D.ok sc_KindStack_enter T.cl_KindStack (fun vs H Q E h => ?_) (fun f cdv A outer s H vs Q E hr h => ?_)
  · obtain ⟨ks, hl, ll, t, las, hd, ms, lv, rfl, _⟩ := h; rfl
  · obtain ⟨ks, hl, ll, t, las, hd, ms, lv, rfl, hk, ht, lh, llv, q⟩ := h
    obtain ⟨dx, hob⟩ := hk.ob
    refine ⟨_, (pss_cons (ps_expr (pe_bm PySem.F.plainAttrs_list PySem.F.slot_list_append PySem.F.type_list_append mt_append (pe_fld (pv 0) rfl) (pa_cons (pe_nw c_Level___init__ hr (by decide) (by rfl) T.g_Level (pa_cons (pe_callB call_len_seq (by rfl) T.m_len PySem.boot_len (pa_cons (pe_fld (pv 0) rfl) pa_nil)) (pa_cons (pe_mE0 c_KindStack_is_dead hr (by decide) pass0 (pv 0)) pa_nil))) pa_nil)))
      (pss_one (ps_expr (pe_mE c_KindStack_put hr (by decide) pass0 (pv 0) (pa_cons (pv 1) pa_nil))))), ?_⟩
    refine ⟨_, rfl, ks, _, dx, _, _, rfl, hob, T.cl_KindStack, T.n_KindStack_levels, lk_KindStack_levels, .inl ⟨rfl, _, SqL.of hk.le⟩, ?_⟩
    walk_at "go"
    refine ⟨ks, _, dx, _, _, rfl, hob, T.cl_KindStack, T.n_KindStack_held, lk_KindStack_held, ?_⟩
    refine ⟨hl, _, rfl, .inl (SqL.of hk.he), ?_⟩
    walk_at "go"
    refine ⟨ks, dx, _, rfl, hob, no_KindStack_is_dead, ?_⟩
    refine ⟨ks, hl, ll, las, hd, lv, rfl, hk, ?_⟩
    walk_at "go"
    intro a da nxa nda ned
    rw [List.length_map]
    refine ⟨a, da, hd.length, isDead lv, rfl, upd_same, fun H1 ho b1 => ⟨rfl, ?_⟩⟩
    have s1 := made_same nxa nda b1
    obtain ⟨da2, ho⟩ := ho
    have hk1 := hk.same s1
    have na : a ∉ las := fun z => by
      obtain ⟨i, hi, e⟩ := List.mem_iff_getElem.mp z
      obtain ⟨b, db, b1', b2⟩ := hk.at' i (lv[i]'(by rw [← hk.len]; exact hi)) (List.getElem?_eq_getElem (by rw [← hk.len]; exact hi))
      rw [List.getElem?_eq_getElem hi, e] at b1'
      cases b1'
      rw [nxa] at b2; cases b2
    walk_at "go"
    refine ⟨_, _, _, rfl, rfl, hk1.le, small64' (by rw [List.length_map, hk1.len]; omega), ?_⟩
    rw [show las.map V.ref ++ [V.ref a] = (las ++ [a]).map V.ref by rw [List.map_append]; rfl]
    have hk2 := hk1.more ho na
    generalize x2 : upd H1 ll _ = H2 at hk2
    have b2 : SameBut [hl, ll] H H2 := by subst x2; exact (Same.but s1).upd (by simp)
    have t2 : SqT K H2 t (ms.map kdV) := by subst x2; exact Ti.putL hk1.le _ _ (Same.ti s1 _ _ ht)
    clear x2
    obtain ⟨dx', hob2⟩ := hk2.ob
    walk_at "go"
    refine ⟨ks, dx', _, rfl, hob2, no_KindStack_put, ?_⟩
    walk_at "go"
    refine ⟨ks, hl, ll, t, las ++ [a], hd, ms, _, rfl, hk2, t2, lh, fun H3 hk3 b3 => ?_⟩
    exact q a H3 nxa hk3 (b2.trans (b3.mono fun z hz => by rw [List.mem_singleton.mp hz]; simp))
theorem c_KindStack_leave (D : DefM K (Cs.C_KindStack cs) "leave" "KindStack.leave" s_KindStack_leave ["self", "results"]) (T : Tp w K mg cs) (c_KindStack_take : CalM P w K mg base (L2.CX P w) (Cs.C_KindStack cs) 4 "take" (sp_KindStack_take K cs)) : CalM P w K mg base (L2.CX P w) (Cs.C_KindStack cs) 5 "leave" (sp_KindStack_leave K cs) := by
  refine D.okX sc_KindStack_leave T.cl_KindStack (fun vs H Q E h => ?_) (fun f cdv A outer s H vs Q E hr h => ?_)
  · obtain ⟨ks, hl, ll, t, las, w', ms, rfl, _⟩ := h; rfl
  · obtain ⟨ks, hl, ll, t, las, w', ms, rfl, hk, ht, hlv, lh, lm, q1, q2⟩ := h
    obtain ⟨dx, hob⟩ := hk.ob
    refine ⟨_, (pss_cons (ps_expr (pe_mE c_KindStack_take hr (by decide) (passes_call (takes_of rfl rfl rfl rfl) (fun _ _ _ _ h => h)) (pv 0) (pa_cons (pv 1) pa_nil)))
      (pss_cons (ps_if (pt_cmpR op_gt (pe_callB call_len_seq (by rfl) T.m_len PySem.boot_len (pa_cons (pe_fld (pv 0) rfl) pa_nil)) (pe_fld (pe_ix ix_list (pe_fld (pv 0) rfl) (pe_un un_neg pe_int) (fun _ _ => rfl)) rfl) (by first | rfl | exact nomark _)) (pss_one (ps_raise rfl (takes_of rfl rfl rfl rfl) (pmk_oex T.e_CodeFault.T T.iC_CodeFault T.tI_CodeFault (in_CodeFault T) (hr.mono (by decide)) T.b_CodeFault .nil pass0 (by rfl) T.e_CodeFault.g (pa_cons pe_str pa_nil)))) pss_nil)
      (pss_one (ps_expr (pe_bm0 PySem.F.plainAttrs_list PySem.F.slot_list_pop PySem.F.type_list_pop mt_pop (pe_fld (pv 0) rfl)))))), ?_⟩
    refine ⟨_, rfl, ks, dx, _, rfl, hob, no_KindStack_take, ?_⟩
    walk_at "go"
    refine ⟨ks, hl, ll, t, las, w', ms, rfl, hk, ht, hlv, lh, lm, fun en H1 hk1 b1 => ?_, fun en d Hf s1 e => q2 (.inl en) d Hf (Same.but s1) e⟩
    obtain ⟨dx1, hob1⟩ := hk1.ob
    have hlv1 : okLv { w' with held := (takes w' ms).held } = true := by
      unfold okLv at hlv ⊢
      cases e : w'.levels.getLast? with
      | none => rw [e] at hlv; cases hlv
      | some l =>
        rw [e] at hlv
        have h0 : l.floor ≤ w'.held.length := of_decide_eq_true hlv
        have et : topLv w' = l := by unfold topLv; rw [e]; rfl
        refine decide_eq_true ?_
        show l.floor ≤ (w'.held.take (w'.held.length - min ms.length (w'.held.length - (topLv w').floor))).length
        rw [et, List.length_take]
        omega
    obtain ⟨a, dx2, e3, e2, hfl, ea⟩ := KsAt.lvl (w := { w' with held := (takes w' ms).held }) hk1 hlv1
    have etl : topLv { w' with held := (takes w' ms).held } = topLv w' := rfl
    rw [etl] at e2
    walk_at "go"
    refine ⟨ks, _, dx1, _, _, rfl, hob1, T.cl_KindStack, T.n_KindStack_held, lk_KindStack_held, ?_⟩
    refine ⟨hl, _, rfl, .inl (SqL.of hk1.he), ?_⟩
    walk_at "go"
    refine ⟨ks, _, dx1, _, _, rfl, hob1, T.cl_KindStack, T.n_KindStack_levels, lk_KindStack_levels, ?_⟩
    walk_at "go"
    refine ⟨ll, _, _, _, rfl, rfl, SqL.of hk1.le, at_last e3, ?_⟩
    refine ⟨a, _, dx2, _, _, rfl, e2, T.cl_Level, T.n_Level_floor, lk_Level_floor, ?_⟩
    walk_at "go"
    rw [List.length_map]
    refine ite2 (fun c => ?_) (fun c => ?_)
    · have c' : (topLv w').floor < (takes w' ms).held.length := by have := of_decide_eq_true c; omega
      walk_at "go"
      exact (fly1 (K := K) fun d Hf s2 e => q2 (.inr c') d Hf (b1.trans (Same.but s2)) e).2
    · have c' : ¬ (topLv w').floor < (takes w' ms).held.length := by have := of_decide_eq_false (Bool.eq_false_iff.mpr c); omega
      walk_at "go"
      refine ⟨ks, _, dx1, _, _, rfl, hob1, T.cl_KindStack, T.n_KindStack_levels, lk_KindStack_levels, .inl ⟨rfl, _, SqL.of hk1.le⟩, ?_⟩
      have elast : (las.map V.ref)[(las.map V.ref).length - 1]? = some (V.ref a) := by rw [← List.getLast?_eq_getElem?]; exact e3
      refine ⟨ll, _, _, rfl, rfl, hk1.le, elast, ?_⟩
      rw [← List.map_dropLast]
      exact q1 en c' _ hk1.less ((b1.mono fun z hz => by rw [List.mem_singleton.mp hz]; simp).upd (by simp))
end

/-! ### the scope of a body -/
def tupS (zs : List Str) : PyData := .tuple (zs.map PyData.str)
def sgD (s : List Str × List Str) : PyData := .tuple [tupS s.1, tupS s.2]
def hdD (h : Str × Bool) : PyData := .tuple [.str h.1, .bool h.2]
theorem kds_tupS (zs : List Str) : tupS zs = .tuple ((oSome zs).map kdD) := by
  unfold tupS oSome
  rw [List.map_map]; rfl
structure ScAt (K : PySem.W.Frag) (cs : Cs) (H : Hp) (sc lb : Addr) (c : Ctx) (ls : List (List Str)) : Prop where
  ob : ∃ (dx sl rs sg fi ti hs : Addr), H sc = some (.ins cs.C_Scope dx (fs_Scope (.ref sl) (.ref rs) (.ref lb) (.ref sg) (.ref fi) (.ref ti) (.ref hs) (.int (c.tabs : Int)) (.int (c.mems : Int)))) ∧ SqT K H sl (c.slots.map V.str) ∧ SqT K H rs (c.results.map V.str) ∧
    Dt K H (.ref sg) (.tuple (c.sigs.map sgD)) ∧ H fi = some (.lst (c.funs.map fun (n : Nat) => V.int (n : Int))) ∧ H ti = some (.lst (c.tags.map fun (n : Nat) => V.int (n : Int))) ∧ ∃ xs, H hs = some (.lst xs) ∧ DtA K H xs (c.heads.map hdD)
  lbs : ∃ xs, H lb = some (.lst xs) ∧ DtA K H xs (ls.map tupS)
theorem ScAt.same {K : PySem.W.Frag} {cs : Cs} {H H' : Hp} {sc lb : Addr} {c : Ctx} {ls : List (List Str)} (e : Same H H') (h : ScAt K cs H sc lb c ls) : ScAt K cs H' sc lb c ls := by
  obtain ⟨⟨dx, sl, rs, sg, fi, ti, hs, h1, h2, h3, h4, h5, h6, xs, h7, h8⟩, ys, h9, h10⟩ := h
  exact ⟨⟨dx, sl, rs, sg, fi, ti, hs, e _ _ h1, Same.ti e _ _ h2, Same.ti e _ _ h3, h4.same e, e _ _ h5, e _ _ h6, xs, e _ _ h7, h8.same e⟩, ys, e _ _ h9, h10.same e⟩
def spS (cs : Cs) (K : PySem.W.Frag) (r : Str) (get : Ctx → List (List Str) → Nat → Option PyData) : Sp := fun vs H Q E => ∃ (sc lb : Addr) (c : Ctx) (ls : List (List Str)) (n : Nat), vs = [.ref sc, .int (n : Int)] ∧ ScAt K cs H sc lb c ls ∧
  (∀ d, get c ls n = some d → ∀ v, Dt K H v d → Q v H) ∧ (get c ls n = none → Flt cs H E r)
def sp_Scope_slot (K : PySem.W.Frag) (cs : Cs) : Sp := spS cs K "unknown local" fun c _ n => (c.slots[n]?).map PyData.str
def sp_Scope_variable (K : PySem.W.Frag) (cs : Cs) : Sp := spS cs K "unknown global" fun c _ n => (c.heads[n]?).map hdD
def sp_Scope_signature (K : PySem.W.Frag) (cs : Cs) : Sp := spS cs K "unknown signature" fun c _ n => (c.sigs[n]?).map sgD
def sp_Scope_function (K : PySem.W.Frag) (cs : Cs) : Sp := spS cs K "unknown function" fun c _ n => (funOf c n).map sgD
def sp_Scope_tag (K : PySem.W.Frag) (cs : Cs) : Sp := spS cs K "unknown tag" fun c _ n => (tagOf c n).map tupS
def sp_Scope_label (K : PySem.W.Frag) (cs : Cs) : Sp := spS cs K "unknown label" fun _ ls n => (if n < ls.length then ls[ls.length - 1 - n]? else none).map tupS
def sp_Scope_need_table (K : PySem.W.Frag) (cs : Cs) : Sp := fun vs H Q E => ∃ (sc lb : Addr) (c : Ctx) (ls : List (List Str)) (n : Nat), vs = [.ref sc, .int (n : Int)] ∧ ScAt K cs H sc lb c ls ∧ (n < c.tabs → Q .non H) ∧ (c.tabs ≤ n → Flt cs H E "unknown table")
def sp_Scope_need_memory (K : PySem.W.Frag) (cs : Cs) : Sp := fun vs H Q E => ∃ (sc lb : Addr) (c : Ctx) (ls : List (List Str)), vs = [.ref sc] ∧ ScAt K cs H sc lb c ls ∧ (¬ c.mems = 0 → Q .non H) ∧ (c.mems = 0 → Flt cs H E "unknown memory")
def shpV : Shp → V
  | .none => .non
  | .kind k => .str k
  | .idx n => .int (n : Int)
def okShp (ns : Nat) : Shp → Prop
  | .none => True
  | .kind k => k = "i32" ∨ k = "i64"
  | .idx n => n < ns
def sgOf (sigs : List (List Str × List Str)) : Shp → Option (List Str × List Str)
  | .none => some ([], [])
  | .kind k => some ([], [k])
  | .idx n => sigs[n]?
theorem sgOf_c (c : Ctx) (sh : Shp) : sgOf c.sigs sh = shapeOf c sh := by cases sh <;> rfl
def sp_shape_kinds (K : PySem.W.Frag) (_cs : Cs) : Sp := fun vs H Q _ => ∃ (sg : V) (sigs : List (List Str × List Str)) (sh : Shp) (s : List Str × List Str), vs = [sg, shpV sh] ∧ Dt K H sg (.tuple (sigs.map sgD)) ∧ okShp sigs.length sh ∧ sgOf sigs sh = some s ∧
  ∀ v H', Same H H' → Dt K H' v (sgD s) → Q v H'
def sp_Scope_shape (K : PySem.W.Frag) (cs : Cs) : Sp := fun vs H Q E => ∃ (sc lb : Addr) (c : Ctx) (ls : List (List Str)) (sh : Shp), vs = [.ref sc, shpV sh] ∧ ScAt K cs H sc lb c ls ∧ (∀ k, sh = .kind k → k = "i32" ∨ k = "i64") ∧
  (∀ s, shapeOf c sh = some s → ∀ v H', Same H H' → Dt K H' v (sgD s) → Q v H') ∧ (shapeOf c sh = none → Flt cs H E "unknown signature")
theorem none_len {α : Type} {xs : List α} {n : Nat} (h : xs.length ≤ n) : xs[n]? = none := List.getElem?_eq_none h
section
variable {P : Program} {w : World} {K : PySem.W.Frag} {mg : Str → Option Value} {base : Heap} {cs : Cs}
theorem c_shape_kinds (D : Def K mg "shape_kinds" s_shape_kinds ["signatures", "shape"]) (T : Tp w K mg cs)  : Cal P w K mg base CX0 1 "shape_kinds" (sp_shape_kinds K cs) := by
  refine D.ok sc_shape_kinds (fun vs H Q E h => ?_) (fun f cdv A outer s H vs Q E hr h => ?_)
  · obtain ⟨sg, sigs, sh, s, rfl, _⟩ := h; rfl
  · obtain ⟨sg, sigs, sh, s, rfl, h1, h2, e1, q⟩ := h
    refine ⟨_, (pss_cons (ps_if (pt_cmpR op_isN (pv 1) pe_non (by first | rfl | exact nomark _)) (pss_one (ps_ret (pe_tup (pa_cons (pe_tup pa_nil) (pa_cons (pe_tup pa_nil) pa_nil))))) pss_nil)
      (pss_cons (ps_if (pt_cmpR op_in_seq (pv 1) (pe_tup (pa_cons pe_str (pa_cons pe_str pa_nil))) (by first | rfl | exact nomark _)) (pss_one (ps_ret (pe_tup (pa_cons (pe_tup pa_nil) (pa_cons (pe_tup (pa_cons (pv 1) pa_nil)) pa_nil))))) pss_nil)
      (pss_one (ps_ret (pe_ix ix_tup (pv 0) (pv 1) (fun _ _ => rfl)))))), ?_⟩
    cases sh with
    | none =>
      cases e1
      walk_at "go"
      intro p1 n1; generalize g1 : upd H p1 _ = H1; obtain ⟨s1, d1⟩ := newT (K := K) (ds := []) n1 g1 .nil
      walk_at "go"
      intro p2 n2; generalize g2 : upd H1 p2 _ = H2; obtain ⟨s2, d2⟩ := newT (K := K) (ds := []) n2 g2 .nil
      walk_at "go"
      intro p3 n3; generalize g3 : upd H2 p3 _ = H3; obtain ⟨s3, d3⟩ := newT (K := K) (ds := [.tuple [], .tuple []]) n3 g3 (.cons (d1.same s2) (.cons d2 .nil))
      exact q _ _ (s1.trans (s2.trans s3)) d3
    | kind k =>
      cases e1
      walk_at "go"
      intro p0 n0; generalize g0 : upd H p0 _ = H0; obtain ⟨s0, d0⟩ := newT (K := K) (ds := [.str "i32", .str "i64"]) n0 g0 (.cons (.str _) (.cons (.str _) .nil))
      have e0 : H0 p0 = some (.tup [.str "i32", .str "i64"]) := by rw [← g0]; exact upd_same
      refine ⟨p0, _, rfl, .inr (SqT.of e0), rfl, rfl, ?_⟩
      have ek : inV (shpV (.kind k)) [.str "i32", .str "i64"] = true := by
        cases h2 with
        | inl h => subst h; rfl
        | inr h => subst h; rfl
      rw [ek]
      walk_at "go"
      intro p1 n1; generalize g1 : upd H0 p1 _ = H1; obtain ⟨s1, d1⟩ := newT (K := K) (ds := []) n1 g1 .nil
      walk_at "go"
      intro p2 n2; generalize g2 : upd H1 p2 _ = H2; obtain ⟨s2, d2⟩ := newT (K := K) (ds := [.str k]) n2 g2 (.cons (.str _) .nil)
      walk_at "go"
      intro p3 n3; generalize g3 : upd H2 p3 _ = H3; obtain ⟨s3, d3⟩ := newT (K := K) (ds := [.tuple [], .tuple [.str k]]) n3 g3 (.cons (d1.same s2) (.cons d2 .nil))
      exact q _ _ (s0.trans (s1.trans (s2.trans s3))) d3
    | idx n =>
      walk_at "go"
      intro p0 n0; generalize g0 : upd H p0 _ = H0; obtain ⟨s0, d0⟩ := newT (K := K) (ds := [.str "i32", .str "i64"]) n0 g0 (.cons (.str _) (.cons (.str _) .nil))
      have e0 : H0 p0 = some (.tup [.str "i32", .str "i64"]) := by rw [← g0]; exact upd_same
      refine ⟨p0, _, rfl, .inr (SqT.of e0), rfl, rfl, ?_⟩
      walk_at "go"
      refine ix_D (k := n) (h1.same s0) (by rw [List.getElem?_map, show sigs[n]? = some s from e1]; rfl) fun v hv => ?_
      exact q _ _ s0 hv
theorem c_Scope_slot (D : DefM K (Cs.C_Scope cs) "slot" "Scope.slot" s_Scope_slot ["self", "index"]) (T : Tp w K mg cs)  : CalM P w K mg base (L2.CX P w) (Cs.C_Scope cs) 3 "slot" (sp_Scope_slot K cs) := by
  refine D.okX sc_Scope_slot T.cl_Scope (fun vs H Q E h => ?_) (fun f cdv A outer s H vs Q E hr h => ?_)
  · obtain ⟨sc, lb, c, ls, n, rfl, _⟩ := h; rfl
  · obtain ⟨sc, lb, c, ls, n, rfl, ⟨⟨dx, sl, rs, sg, fi, ti, hs, h1, h2, h3, h4, h5, h6, xs, h7, h8⟩, ys, h9, h10⟩, q1, q2⟩ := h
    refine ⟨_, (pss_cons (ps_if (pt_cmpR op_ge (pv 1) (pe_callB call_len_seq (by rfl) T.m_len PySem.boot_len (pa_cons (pe_fld (pv 0) rfl) pa_nil)) (by first | rfl | exact nomark _)) (pss_one (ps_raise rfl (takes_of rfl rfl rfl rfl) (pmk_oex T.e_CodeFault.T T.iC_CodeFault T.tI_CodeFault (in_CodeFault T) (hr.mono (by decide)) T.b_CodeFault .nil pass0 (by rfl) T.e_CodeFault.g (pa_cons pe_str pa_nil)))) pss_nil)
      (pss_one (ps_ret (pe_ix ix_tup (pe_fld (pv 0) rfl) (pv 1) (fun _ _ => rfl))))), ?_⟩
    walk_at "go"
    refine ⟨sc, _, dx, _, _, rfl, h1, T.cl_Scope, T.n_Scope_slots, lk_Scope_slots, ?_⟩
    walk_at "go"
    rw [List.length_map]
    refine ite2 (fun cc => ?_) (fun cc => ?_)
    · have c' : c.slots.length ≤ n := by have := of_decide_eq_true cc; omega
      walk_at "go"
      exact (fly1 (K := K) fun d Hf s2 e => q2 (by dsimp only; rw [none_len c']; rfl) d Hf s2 e).2
    · have c' : n < c.slots.length := by have := of_decide_eq_false (Bool.eq_false_iff.mpr cc); omega
      have e1 : c.slots[n]? = some c.slots[n] := List.getElem?_eq_getElem c'
      walk_at "go"
      refine ⟨sc, _, dx, _, _, rfl, h1, T.cl_Scope, T.n_Scope_slots, lk_Scope_slots, ?_⟩
      walk_at "go"
      refine ⟨sl, _, _, _, rfl, rfl, h2, atI_nat (by rw [List.getElem?_map, e1]; rfl), ?_⟩
      exact q1 _ (by dsimp only; rw [e1]; rfl) _ (.str _)
theorem c_Scope_variable (D : DefM K (Cs.C_Scope cs) "variable" "Scope.variable" s_Scope_variable ["self", "index"]) (T : Tp w K mg cs)  : CalM P w K mg base (L2.CX P w) (Cs.C_Scope cs) 3 "variable" (sp_Scope_variable K cs) := by
  refine D.okX sc_Scope_variable T.cl_Scope (fun vs H Q E h => ?_) (fun f cdv A outer s H vs Q E hr h => ?_)
  · obtain ⟨sc, lb, c, ls, n, rfl, _⟩ := h; rfl
  · obtain ⟨sc, lb, c, ls, n, rfl, ⟨⟨dx, sl, rs, sg, fi, ti, hs, h1, h2, h3, h4, h5, h6, xs, h7, h8⟩, ys, h9, h10⟩, q1, q2⟩ := h
    have lx := h8.len
    rw [List.length_map] at lx
    refine ⟨_, (pss_cons (ps_if (pt_cmpR op_ge (pv 1) (pe_callB call_len_seq (by rfl) T.m_len PySem.boot_len (pa_cons (pe_fld (pv 0) rfl) pa_nil)) (by first | rfl | exact nomark _)) (pss_one (ps_raise rfl (takes_of rfl rfl rfl rfl) (pmk_oex T.e_CodeFault.T T.iC_CodeFault T.tI_CodeFault (in_CodeFault T) (hr.mono (by decide)) T.b_CodeFault .nil pass0 (by rfl) T.e_CodeFault.g (pa_cons pe_str pa_nil)))) pss_nil)
      (pss_one (ps_ret (pe_ix ix_list (pe_fld (pv 0) rfl) (pv 1) (fun _ _ => rfl))))), ?_⟩
    walk_at "go"
    refine ⟨sc, _, dx, _, _, rfl, h1, T.cl_Scope, T.n_Scope_heads, lk_Scope_heads, ?_⟩
    refine ⟨hs, _, rfl, .inl (SqL.of h7), ?_⟩
    walk_at "go"
    rw [lx]
    refine ite2 (fun cc => ?_) (fun cc => ?_)
    · have c' : c.heads.length ≤ n := by have := of_decide_eq_true cc; omega
      walk_at "go"
      exact (fly1 (K := K) fun d Hf s2 e => q2 (by dsimp only; rw [none_len c']; rfl) d Hf s2 e).2
    · have c' : n < c.heads.length := by have := of_decide_eq_false (Bool.eq_false_iff.mpr cc); omega
      have e1 : c.heads[n]? = some c.heads[n] := List.getElem?_eq_getElem c'
      walk_at "go"
      refine ⟨sc, _, dx, _, _, rfl, h1, T.cl_Scope, T.n_Scope_heads, lk_Scope_heads, ?_⟩
      walk_at "go"
      refine ix_Dl (k := n) (SqL.of h7) h8 (by rw [List.getElem?_map, e1]; rfl) fun v hv => ?_
      exact q1 _ (by dsimp only; rw [e1]; rfl) v hv
theorem c_Scope_signature (D : DefM K (Cs.C_Scope cs) "signature" "Scope.signature" s_Scope_signature ["self", "index"]) (T : Tp w K mg cs)  : CalM P w K mg base (L2.CX P w) (Cs.C_Scope cs) 3 "signature" (sp_Scope_signature K cs) := by
  refine D.okX sc_Scope_signature T.cl_Scope (fun vs H Q E h => ?_) (fun f cdv A outer s H vs Q E hr h => ?_)
  · obtain ⟨sc, lb, c, ls, n, rfl, _⟩ := h; rfl
  · obtain ⟨sc, lb, c, ls, n, rfl, ⟨⟨dx, sl, rs, sg, fi, ti, hs, h1, h2, h3, h4, h5, h6, xs, h7, h8⟩, ys, h9, h10⟩, q1, q2⟩ := h
    obtain ⟨sg', zs, e0, h4', h4a⟩ := h4.vtup
    cases e0
    have lx := h4a.len
    rw [List.length_map] at lx
    refine ⟨_, (pss_cons (ps_if (pt_cmpR op_ge (pv 1) (pe_callB call_len_seq (by rfl) T.m_len PySem.boot_len (pa_cons (pe_fld (pv 0) rfl) pa_nil)) (by first | rfl | exact nomark _)) (pss_one (ps_raise rfl (takes_of rfl rfl rfl rfl) (pmk_oex T.e_CodeFault.T T.iC_CodeFault T.tI_CodeFault (in_CodeFault T) (hr.mono (by decide)) T.b_CodeFault .nil pass0 (by rfl) T.e_CodeFault.g (pa_cons pe_str pa_nil)))) pss_nil)
      (pss_one (ps_ret (pe_ix ix_tup (pe_fld (pv 0) rfl) (pv 1) (fun _ _ => rfl))))), ?_⟩
    walk_at "go"
    refine ⟨sc, _, dx, _, _, rfl, h1, T.cl_Scope, T.n_Scope_signatures, lk_Scope_signatures, ?_⟩
    walk_at "go"
    rw [lx]
    refine ite2 (fun cc => ?_) (fun cc => ?_)
    · have c' : c.sigs.length ≤ n := by have := of_decide_eq_true cc; omega
      walk_at "go"
      exact (fly1 (K := K) fun d Hf s2 e => q2 (by dsimp only; rw [none_len c']; rfl) d Hf s2 e).2
    · have c' : n < c.sigs.length := by have := of_decide_eq_false (Bool.eq_false_iff.mpr cc); omega
      have e1 : c.sigs[n]? = some c.sigs[n] := List.getElem?_eq_getElem c'
      walk_at "go"
      refine ⟨sc, _, dx, _, _, rfl, h1, T.cl_Scope, T.n_Scope_signatures, lk_Scope_signatures, ?_⟩
      walk_at "go"
      refine ix_D (k := n) h4 (by rw [List.getElem?_map, e1]; rfl) fun v hv => ?_
      exact q1 _ (by dsimp only; rw [e1]; rfl) v hv
theorem c_Scope_function (D : DefM K (Cs.C_Scope cs) "function" "Scope.function" s_Scope_function ["self", "index"]) (T : Tp w K mg cs)  : CalM P w K mg base (L2.CX P w) (Cs.C_Scope cs) 3 "function" (sp_Scope_function K cs) := by
  refine D.okX sc_Scope_function T.cl_Scope (fun vs H Q E h => ?_) (fun f cdv A outer s H vs Q E hr h => ?_)
  · obtain ⟨sc, lb, c, ls, n, rfl, _⟩ := h; rfl
  · obtain ⟨sc, lb, c, ls, n, rfl, ⟨⟨dx, sl, rs, sg, fi, ti, hs, h1, h2, h3, h4, h5, h6, xs, h7, h8⟩, ys, h9, h10⟩, q1, q2⟩ := h
    obtain ⟨sg', zs, e0, h4', h4a⟩ := h4.vtup
    cases e0
    have lx := h4a.len
    rw [List.length_map] at lx
    refine ⟨_, (pss_cons (ps_set (i := 2) sc_Scope_function.nd rfl (by first | exact Or.inl rfl | exact Or.inr rfl) (pe_fld (pv 0) rfl))
      (pss_cons (ps_if (PW.pt (pw_or (pt_cmpR op_ge (pv 1) (pe_callB call_len_seq (by rfl) T.m_len PySem.boot_len (pa_cons (pv 2) pa_nil)) (by first | rfl | exact nomark _)) (pw_or1 (pt_cmpR op_ge (pe_ix ix_list (pv 2) (pv 1) (fun _ _ => rfl)) (pe_callB call_len_seq (by rfl) T.m_len PySem.boot_len (pa_cons (pe_fld (pv 0) rfl) pa_nil)) (by first | rfl | exact nomark _))))) (pss_one (ps_raise rfl (takes_of rfl rfl rfl rfl) (pmk_oex T.e_CodeFault.T T.iC_CodeFault T.tI_CodeFault (in_CodeFault T) (hr.mono (by decide)) T.b_CodeFault .nil pass0 (by rfl) T.e_CodeFault.g (pa_cons pe_str pa_nil)))) pss_nil)
      (pss_one (ps_ret (pe_ix ix_tup (pe_fld (pv 0) rfl) (pe_ix ix_list (pv 2) (pv 1) (fun _ _ => rfl)) (fun _ _ => rfl)))))), ?_⟩
    walk_at "go"
    refine ⟨sc, _, dx, _, _, rfl, h1, T.cl_Scope, T.n_Scope_function_indexes, lk_Scope_function_indexes, ?_⟩
    walk_at "go"
    refine ⟨fi, _, rfl, .inl (SqL.of h5), ?_⟩
    walk_at "go"
    rw [List.length_map]
    have fl : ∀ H', Same H H' → funOf c n = none → Flt cs H' E "unknown function" := fun H' s1 e d Hf s2 e2 => q2 (by dsimp only; rw [e]; rfl) d Hf (s1.trans s2) e2
    refine ite2 (fun cc => ?_) (fun cc => ?_)
    · have c' : c.funs.length ≤ n := by have := of_decide_eq_true cc; omega
      walk_at "go"
      exact (fly1 (K := K) fun d Hf s2 e => fl _ (Same.refl _) (by unfold funOf; rw [none_len c']; rfl) d Hf s2 e).2
    · have c' : n < c.funs.length := by have := of_decide_eq_false (Bool.eq_false_iff.mpr cc); omega
      have e1 : c.funs[n]? = some c.funs[n] := List.getElem?_eq_getElem c'
      generalize c.funs[n] = i at e1
      walk_at "go"
      have ei : (c.funs.map fun (n : Nat) => V.int (n : Int))[n]? = some (V.int (i : Int)) := by rw [List.getElem?_map, e1]; rfl
      refine ⟨fi, _, _, _, rfl, rfl, SqL.of h5, atI_nat ei, ?_⟩
      walk_at "go"
      refine ⟨sc, _, dx, _, _, rfl, h1, T.cl_Scope, T.n_Scope_signatures, lk_Scope_signatures, ?_⟩
      walk_at "go"
      rw [lx]
      refine ite2 (fun cc => ?_) (fun cc => ?_)
      · have c2 : c.sigs.length ≤ i := by have := of_decide_eq_true cc; omega
        walk_at "go"
        exact (fly1 (K := K) fun d Hf s2 e => fl _ (Same.refl _) (by unfold funOf; rw [e1]; exact none_len c2) d Hf s2 e).2
      · have c2 : i < c.sigs.length := by have := of_decide_eq_false (Bool.eq_false_iff.mpr cc); omega
        have e2 : c.sigs[i]? = some c.sigs[i] := List.getElem?_eq_getElem c2
        walk_at "go"
        refine ⟨sc, _, dx, _, _, rfl, h1, T.cl_Scope, T.n_Scope_signatures, lk_Scope_signatures, ?_⟩
        walk_at "go"
        refine ⟨fi, _, _, _, rfl, rfl, SqL.of h5, atI_nat ei, ?_⟩
        refine ix_D (k := i) h4 (by rw [List.getElem?_map, e2]; rfl) fun v hv => ?_
        exact q1 _ (by dsimp only; unfold funOf; rw [e1]; show Option.map sgD c.sigs[i]? = _; rw [e2]; rfl) v hv
theorem c_Scope_tag (D : DefM K (Cs.C_Scope cs) "tag" "Scope.tag" s_Scope_tag ["self", "index"]) (T : Tp w K mg cs)  : CalM P w K mg base (L2.CX P w) (Cs.C_Scope cs) 3 "tag" (sp_Scope_tag K cs) := by
  refine D.okX sc_Scope_tag T.cl_Scope (fun vs H Q E h => ?_) (fun f cdv A outer s H vs Q E hr h => ?_)
  · obtain ⟨sc, lb, c, ls, n, rfl, _⟩ := h; rfl
  · obtain ⟨sc, lb, c, ls, n, rfl, ⟨⟨dx, sl, rs, sg, fi, ti, hs, h1, h2, h3, h4, h5, h6, xs, h7, h8⟩, ys, h9, h10⟩, q1, q2⟩ := h
    obtain ⟨sg', zs, e0, h4', h4a⟩ := h4.vtup
    cases e0
    have lx := h4a.len
    rw [List.length_map] at lx
    refine ⟨_, (pss_cons (ps_set (i := 2) sc_Scope_tag.nd rfl (by first | exact Or.inl rfl | exact Or.inr rfl) (pe_fld (pv 0) rfl))
      (pss_cons (ps_if (PW.pt (pw_or (pt_cmpR op_ge (pv 1) (pe_callB call_len_seq (by rfl) T.m_len PySem.boot_len (pa_cons (pv 2) pa_nil)) (by first | rfl | exact nomark _)) (pw_or1 (pt_cmpR op_ge (pe_ix ix_list (pv 2) (pv 1) (fun _ _ => rfl)) (pe_callB call_len_seq (by rfl) T.m_len PySem.boot_len (pa_cons (pe_fld (pv 0) rfl) pa_nil)) (by first | rfl | exact nomark _))))) (pss_one (ps_raise rfl (takes_of rfl rfl rfl rfl) (pmk_oex T.e_CodeFault.T T.iC_CodeFault T.tI_CodeFault (in_CodeFault T) (hr.mono (by decide)) T.b_CodeFault .nil pass0 (by rfl) T.e_CodeFault.g (pa_cons pe_str pa_nil)))) pss_nil)
      (pss_one (ps_ret (pe_ix ix_tup (pe_ix ix_tup (pe_fld (pv 0) rfl) (pe_ix ix_list (pv 2) (pv 1) (fun _ _ => rfl)) (fun _ _ => rfl)) pe_int (fun _ _ => rfl)))))), ?_⟩
    walk_at "go"
    refine ⟨sc, _, dx, _, _, rfl, h1, T.cl_Scope, T.n_Scope_tag_indexes, lk_Scope_tag_indexes, ?_⟩
    walk_at "go"
    refine ⟨ti, _, rfl, .inl (SqL.of h6), ?_⟩
    walk_at "go"
    rw [List.length_map]
    have fl : ∀ H', Same H H' → tagOf c n = none → Flt cs H' E "unknown tag" := fun H' s1 e d Hf s2 e2 => q2 (by dsimp only; rw [e]; rfl) d Hf (s1.trans s2) e2
    refine ite2 (fun cc => ?_) (fun cc => ?_)
    · have c' : c.tags.length ≤ n := by have := of_decide_eq_true cc; omega
      walk_at "go"
      exact (fly1 (K := K) fun d Hf s2 e => fl _ (Same.refl _) (by unfold tagOf; rw [none_len c']; rfl) d Hf s2 e).2
    · have c' : n < c.tags.length := by have := of_decide_eq_false (Bool.eq_false_iff.mpr cc); omega
      have e1 : c.tags[n]? = some c.tags[n] := List.getElem?_eq_getElem c'
      generalize c.tags[n] = i at e1
      walk_at "go"
      have ei : (c.tags.map fun (n : Nat) => V.int (n : Int))[n]? = some (V.int (i : Int)) := by rw [List.getElem?_map, e1]; rfl
      refine ⟨ti, _, _, _, rfl, rfl, SqL.of h6, atI_nat ei, ?_⟩
      walk_at "go"
      refine ⟨sc, _, dx, _, _, rfl, h1, T.cl_Scope, T.n_Scope_signatures, lk_Scope_signatures, ?_⟩
      walk_at "go"
      rw [lx]
      refine ite2 (fun cc => ?_) (fun cc => ?_)
      · have c2 : c.sigs.length ≤ i := by have := of_decide_eq_true cc; omega
        walk_at "go"
        exact (fly1 (K := K) fun d Hf s2 e => fl _ (Same.refl _) (by unfold tagOf; rw [e1]; show (c.sigs[i]?).map (·.1) = none; rw [none_len c2]; rfl) d Hf s2 e).2
      · have c2 : i < c.sigs.length := by have := of_decide_eq_false (Bool.eq_false_iff.mpr cc); omega
        have e2 : c.sigs[i]? = some c.sigs[i] := List.getElem?_eq_getElem c2
        walk_at "go"
        refine ⟨sc, _, dx, _, _, rfl, h1, T.cl_Scope, T.n_Scope_signatures, lk_Scope_signatures, ?_⟩
        walk_at "go"
        refine ⟨ti, _, _, _, rfl, rfl, SqL.of h6, atI_nat ei, ?_⟩
        refine ix_D (k := i) h4 (by rw [List.getElem?_map, e2]; rfl) fun v hv => ?_
        generalize ez : c.sigs[i] = z at hv e2
        refine ix_D (k := 0) (d := tupS z.1) hv rfl fun u hu => ?_
        exact q1 _ (by dsimp only; unfold tagOf; rw [e1]; show Option.map tupS ((c.sigs[i]?).map (·.1)) = _; rw [e2]; rfl) u hu
theorem c_Scope_shape (D : DefM K (Cs.C_Scope cs) "shape" "Scope.shape" s_Scope_shape ["self", "shape"]) (T : Tp w K mg cs) (c_shape_kinds : Cal P w K mg base CX0 1 "shape_kinds" (sp_shape_kinds K cs)) : CalM P w K mg base (L2.CX P w) (Cs.C_Scope cs) 3 "shape" (sp_Scope_shape K cs) := by
  refine D.okX sc_Scope_shape T.cl_Scope (fun vs H Q E h => ?_) (fun f cdv A outer s H vs Q E hr h => ?_)
  · obtain ⟨sc, lb, c, ls, sh, rfl, _⟩ := h; rfl
  · obtain ⟨sc, lb, c, ls, sh, rfl, ⟨⟨dx, sl, rs, sg, fi, ti, hs, h1, h2, h3, h4, h5, h6, xs, h7, h8⟩, ys, h9, h10⟩, hk, q1, q2⟩ := h
    obtain ⟨sg', zs, e0', h4', h4a⟩ := h4.vtup
    cases e0'
    have lx := h4a.len
    rw [List.length_map] at lx
    refine ⟨_, (pss_cons (ps_if (PW.pt (pw_and (pt_cmpR op_notIn_seq (pv 1) (pe_tup (pa_cons pe_non (pa_cons pe_str (pa_cons pe_str pa_nil)))) (by first | rfl | exact nomark _)) (pw_and1 (pt_cmpR op_ge (pv 1) (pe_callB call_len_seq (by rfl) T.m_len PySem.boot_len (pa_cons (pe_fld (pv 0) rfl) pa_nil)) (by first | rfl | exact nomark _))))) (pss_one (ps_raise rfl (takes_of rfl rfl rfl rfl) (pmk_oex T.e_CodeFault.T T.iC_CodeFault T.tI_CodeFault (in_CodeFault T) (hr.mono (by decide)) T.b_CodeFault .nil pass0 (by rfl) T.e_CodeFault.g (pa_cons pe_str pa_nil)))) pss_nil)
      (pss_one (ps_ret (pe_c c_shape_kinds hr (by decide) (by rfl) (pa_cons (pe_fld (pv 0) rfl) (pa_cons (pv 1) pa_nil)))))), ?_⟩
    cases sh with
    | none =>
      walk_at "go"
      intro p0 n0; generalize g0 : upd H p0 _ = H0; obtain ⟨s0, d0⟩ := newT (K := K) (ds := [.none, .str "i32", .str "i64"]) n0 g0 (.cons .non (.cons (.str _) (.cons (.str _) .nil)))
      have e0 : H0 p0 = some (.tup [.non, .str "i32", .str "i64"]) := by rw [← g0]; exact upd_same
      refine ⟨p0, _, rfl, .inr (SqT.of e0), rfl, rfl, ?_⟩
      walk_at "go"
      refine ⟨sc, _, dx, _, _, rfl, s0 _ _ h1, T.cl_Scope, T.n_Scope_signatures, lk_Scope_signatures, ?_⟩
      walk_at "go"
      refine ⟨_, c.sigs, .none, _, rfl, h4.same s0, trivial, rfl, fun v H' s1 hv => q1 _ rfl v H' (s0.trans s1) hv⟩
    | kind k =>
      walk_at "go"
      intro p0 n0; generalize g0 : upd H p0 _ = H0; obtain ⟨s0, d0⟩ := newT (K := K) (ds := [.none, .str "i32", .str "i64"]) n0 g0 (.cons .non (.cons (.str _) (.cons (.str _) .nil)))
      have e0 : H0 p0 = some (.tup [.non, .str "i32", .str "i64"]) := by rw [← g0]; exact upd_same
      refine ⟨p0, _, rfl, .inr (SqT.of e0), rfl, rfl, ?_⟩
      have ek : inV (shpV (.kind k)) [.non, .str "i32", .str "i64"] = true := by
        cases hk k rfl with
        | inl h => subst h; rfl
        | inr h => subst h; rfl
      rw [ek]
      walk_at "go"
      refine ⟨sc, _, dx, _, _, rfl, s0 _ _ h1, T.cl_Scope, T.n_Scope_signatures, lk_Scope_signatures, ?_⟩
      walk_at "go"
      refine ⟨_, c.sigs, (.kind k), _, rfl, h4.same s0, (hk k rfl), rfl, fun v H' s1 hv => q1 _ rfl v H' (s0.trans s1) hv⟩
    | idx n =>
      simp only [shpV]
      walk_at "go"
      intro p0 n0; generalize g0 : upd H p0 _ = H0; obtain ⟨s0, d0⟩ := newT (K := K) (ds := [.none, .str "i32", .str "i64"]) n0 g0 (.cons .non (.cons (.str _) (.cons (.str _) .nil)))
      have e0 : H0 p0 = some (.tup [.non, .str "i32", .str "i64"]) := by rw [← g0]; exact upd_same
      refine ⟨p0, _, rfl, .inr (SqT.of e0), rfl, rfl, ?_⟩
      walk_at "go"
      refine ⟨sc, _, dx, _, _, rfl, s0 _ _ h1, T.cl_Scope, T.n_Scope_signatures, lk_Scope_signatures, ?_⟩
      walk_at "go"
      refine ⟨sg, _, rfl, .inr (Same.ti s0 _ _ h4'), ?_⟩
      walk_at "go"
      rw [lx]
      refine ite2 (fun cc => ?_) (fun cc => ?_)
      · have c' : c.sigs.length ≤ n := by have := of_decide_eq_true cc; omega
        walk_at "go"
        exact (fly1 (K := K) fun d Hf s2 e => q2 (none_len c') d Hf (s0.trans s2) e).2
      · have c' : n < c.sigs.length := by have := of_decide_eq_false (Bool.eq_false_iff.mpr cc); omega
        have e1 : c.sigs[n]? = some c.sigs[n] := List.getElem?_eq_getElem c'
        walk_at "go"
        refine ⟨sc, _, dx, _, _, rfl, s0 _ _ h1, T.cl_Scope, T.n_Scope_signatures, lk_Scope_signatures, ?_⟩
        walk_at "go"
        refine ⟨_, c.sigs, (.idx n), _, rfl, h4.same s0, c', e1, fun v H' s1 hv => q1 _ e1 v H' (s0.trans s1) hv⟩
theorem c_Scope_label (D : DefM K (Cs.C_Scope cs) "label" "Scope.label" s_Scope_label ["self", "index"]) (T : Tp w K mg cs)  : CalM P w K mg base (L2.CX P w) (Cs.C_Scope cs) 3 "label" (sp_Scope_label K cs) := by
  refine D.okX sc_Scope_label T.cl_Scope (fun vs H Q E h => ?_) (fun f cdv A outer s H vs Q E hr h => ?_)
  · obtain ⟨sc, lb, c, ls, n, rfl, _⟩ := h; rfl
  · obtain ⟨sc, lb, c, ls, n, rfl, ⟨⟨dx, sl, rs, sg, fi, ti, hs, h1, h2, h3, h4, h5, h6, xs, h7, h8⟩, ys, h9, h10⟩, q1, q2⟩ := h
    have lx := h10.len
    rw [List.length_map] at lx
    refine ⟨_, (pss_cons (ps_if (pt_cmpR op_ge (pv 1) (pe_callB call_len_seq (by rfl) T.m_len PySem.boot_len (pa_cons (pe_fld (pv 0) rfl) pa_nil)) (by first | rfl | exact nomark _)) (pss_one (ps_raise rfl (takes_of rfl rfl rfl rfl) (pmk_oex T.e_CodeFault.T T.iC_CodeFault T.tI_CodeFault (in_CodeFault T) (hr.mono (by decide)) T.b_CodeFault .nil pass0 (by rfl) T.e_CodeFault.g (pa_cons pe_str pa_nil)))) pss_nil)
      (pss_one (ps_ret (pe_ix ix_list (pe_fld (pv 0) rfl) (pe_op op_sub (pe_op op_sub (pe_callB call_len_seq (by rfl) T.m_len PySem.boot_len (pa_cons (pe_fld (pv 0) rfl) pa_nil)) pe_int) (pv 1)) (fun _ _ => rfl))))), ?_⟩
    walk_at "go"
    refine ⟨sc, _, dx, _, _, rfl, h1, T.cl_Scope, T.n_Scope_labels, lk_Scope_labels, ?_⟩
    refine ⟨lb, _, rfl, .inl (SqL.of h9), ?_⟩
    walk_at "go"
    rw [lx]
    refine ite2 (fun cc => ?_) (fun cc => ?_)
    · have c' : ls.length ≤ n := by have := of_decide_eq_true cc; omega
      walk_at "go"
      exact (fly1 (K := K) fun d Hf s2 e => q2 (by dsimp only; rw [if_neg (by omega)]; rfl) d Hf s2 e).2
    · have c' : n < ls.length := by have := of_decide_eq_false (Bool.eq_false_iff.mpr cc); omega
      have e1 : ls[ls.length - 1 - n]? = some ls[ls.length - 1 - n] := List.getElem?_eq_getElem (by omega)
      walk_at "go"
      refine ⟨sc, _, dx, _, _, rfl, h1, T.cl_Scope, T.n_Scope_labels, lk_Scope_labels, ?_⟩
      walk_at "go"
      refine ⟨sc, _, dx, _, _, rfl, h1, T.cl_Scope, T.n_Scope_labels, lk_Scope_labels, ?_⟩
      refine ⟨lb, _, rfl, .inl (SqL.of h9), ?_⟩
      walk_at "go"
      rw [lx]
      obtain ⟨v, ev, hv⟩ := h10.get (k := ls.length - 1 - n) (by rw [List.getElem?_map, e1]; rfl)
      refine ⟨lb, _, _, _, rfl, rfl, SqL.of h9, (by rw [show ((ls.length : Int) - 1) - (n : Int) = ((ls.length - 1 - n : Nat) : Int) by omega]; exact atI_nat ev), ?_⟩
      exact q1 _ (by dsimp only; rw [if_pos c', e1]; rfl) v hv
theorem c_Scope_need_table (D : DefM K (Cs.C_Scope cs) "need_table" "Scope.need_table" s_Scope_need_table ["self", "index"]) (T : Tp w K mg cs)  : CalM P w K mg base (L2.CX P w) (Cs.C_Scope cs) 3 "need_table" (sp_Scope_need_table K cs) := by
  refine D.okX sc_Scope_need_table T.cl_Scope (fun vs H Q E h => ?_) (fun f cdv A outer s H vs Q E hr h => ?_)
  · obtain ⟨sc, lb, c, ls, n, rfl, _⟩ := h; rfl
  · obtain ⟨sc, lb, c, ls, n, rfl, ⟨⟨dx, sl, rs, sg, fi, ti, hs, h1, h2, h3, h4, h5, h6, xs, h7, h8⟩, ys, h9, h10⟩, q1, q2⟩ := h
    refine ⟨_, (pss_one (ps_if (pt_cmpR op_ge (pv 1) (pe_fld (pv 0) rfl) (by first | rfl | exact nomark _)) (pss_one (ps_raise rfl (takes_of rfl rfl rfl rfl) (pmk_oex T.e_CodeFault.T T.iC_CodeFault T.tI_CodeFault (in_CodeFault T) (hr.mono (by decide)) T.b_CodeFault .nil pass0 (by rfl) T.e_CodeFault.g (pa_cons pe_str pa_nil)))) pss_nil)), ?_⟩
    walk_at "go"
    refine ⟨sc, _, dx, _, _, rfl, h1, T.cl_Scope, T.n_Scope_table_count, lk_Scope_table_count, ?_⟩
    walk_at "go"
    refine ite2 (fun cc => ?_) (fun cc => ?_)
    · have c' : c.tabs ≤ n := by have := of_decide_eq_true cc; omega
      walk_at "go"
      exact (fly1 (K := K) fun d Hf s2 e => q2 c' d Hf s2 e).2
    · have c' : n < c.tabs := by have := of_decide_eq_false (Bool.eq_false_iff.mpr cc); omega
      exact q1 c'
theorem c_Scope_need_memory (D : DefM K (Cs.C_Scope cs) "need_memory" "Scope.need_memory" s_Scope_need_memory ["self"]) (T : Tp w K mg cs)  : CalM P w K mg base (L2.CX P w) (Cs.C_Scope cs) 3 "need_memory" (sp_Scope_need_memory K cs) := by
  refine D.okX sc_Scope_need_memory T.cl_Scope (fun vs H Q E h => ?_) (fun f cdv A outer s H vs Q E hr h => ?_)
  · obtain ⟨sc, lb, c, ls, rfl, _⟩ := h; rfl
  · obtain ⟨sc, lb, c, ls, rfl, ⟨⟨dx, sl, rs, sg, fi, ti, hs, h1, h2, h3, h4, h5, h6, xs, h7, h8⟩, ys, h9, h10⟩, q1, q2⟩ := h
    refine ⟨_, (pss_one (ps_if (pt_cmpR op_eq (pe_fld (pv 0) rfl) pe_int (by first | rfl | exact nomark _)) (pss_one (ps_raise rfl (takes_of rfl rfl rfl rfl) (pmk_oex T.e_CodeFault.T T.iC_CodeFault T.tI_CodeFault (in_CodeFault T) (hr.mono (by decide)) T.b_CodeFault .nil pass0 (by rfl) T.e_CodeFault.g (pa_cons pe_str pa_nil)))) pss_nil)), ?_⟩
    refine ⟨_, rfl, sc, _, dx, _, _, rfl, h1, T.cl_Scope, T.n_Scope_memory_count, lk_Scope_memory_count, ?_⟩
    walk_at "go"
    by_cases c' : c.mems = 0
    · refine ifEq (by omega) ?_
      walk_at "go"
      exact (fly1 (K := K) fun d Hf s2 e => q2 c' d Hf s2 e).2
    · refine ifEqN (by omega) ?_
      exact q1 c'
end

/-! ### TAB[i], TAB a written dict of the module with int keys -/
section
variable {X : Cx} {d : Addr} {kvs : List (Int × V)}
def rIxW (d : Addr) (kvs : List (Int × V)) : R2 := fun x y H Q => ∃ (i : Int) (v : V), x = .ref d ∧ y = .int i ∧ valV (keyed kvs) (.inl i) = some v ∧ Q v H
theorem ix_W (D : DicI X.K d kvs) : IxR X (rIxW d kvs) := by
  intro value slice pins s σ H x y v u Q I rx ry h hs
  obtain ⟨i, v0, rfl, rfl, e, q⟩ := h
  obtain rfl : v = Value.ref d := rx
  obtain ⟨t, rfl⟩ := ry
  obtain ⟨ob, es, n, vs, hl, hg, hod, hsz, kv, hsm, hm⟩ := D.facts I
  have hv := kv.val (.inl i)
  rw [e] at hv
  cases eu : valueAt vs (.inl i) with
  | none => rw [eu] at hv; exact absurd hv (fun z => z)
  | some u0 =>
    rw [eu] at hv
    exact tail_any hm.dictOf.mapOf.typeIs PySem.F.slot_dict_getitem.lookup (wpAny_getItem_of (keyIs_int i t) hm.dictOf.mapOf eu ⟨v0, H, I.tok _, hv, q⟩) hs
end

/-! ### a module, and what it says of its items -/
structure Mo where
  sigs : List (List Str × List Str)
  imps : List (Str × Str × Str × PyData)
  funs : List (Nat × PyData × PyData)
  tabs : List PyData
  mems : List PyData
  tags : List Nat
  vars : List (Str × Bool × PyData)
  exps : PyData
  start : PyData
  tsegs : PyData
  msegs : PyData
def impD (r : Str × Str × Str × PyData) : PyData := .tuple [.str r.1, .str r.2.1, .str r.2.2.1, r.2.2.2]
def funD (f : Nat × PyData × PyData) : PyData := .tuple [.int (f.1 : Int), f.2.1, f.2.2]
def varD (v : Str × Bool × PyData) : PyData := .tuple [.str v.1, .bool v.2.1, v.2.2]
def natD (n : Nat) : PyData := .int (n : Int)
def Mo.small (M : Mo) : Prop := M.imps.length ≤ 1000 ∧ M.funs.length ≤ 1000 ∧ M.tabs.length ≤ 1000 ∧ M.mems.length ≤ 1000 ∧ M.tags.length ≤ 1000 ∧ M.vars.length ≤ 1000
def MoAt (K : PySem.W.Frag) (cs : Cs) (H : Hp) (m : Addr) (M : Mo) : Prop := ∃ (dx : Addr) (x0 x1 x2 x3 x4 x5 x6 x7 x8 x9 x10 : V), H m = some (.ins cs.C_Module dx (fs_Module x0 x1 x2 x3 x4 x5 x6 x7 x8 x9 x10)) ∧
  Dt K H x0 (.tuple (M.sigs.map sgD)) ∧ Dt K H x1 (.tuple (M.imps.map impD)) ∧ Dt K H x2 (.tuple (M.funs.map funD)) ∧ Dt K H x3 (.tuple M.tabs) ∧ Dt K H x4 (.tuple M.mems) ∧ Dt K H x5 (.tuple (M.tags.map natD)) ∧ Dt K H x6 (.tuple (M.vars.map varD)) ∧
  Dt K H x7 M.exps ∧ Dt K H x8 M.start ∧ Dt K H x9 M.tsegs ∧ Dt K H x10 M.msegs
theorem MoAt.same {K : PySem.W.Frag} {cs : Cs} {H H' : Hp} {m : Addr} {M : Mo} (e : Same H H') (h : MoAt K cs H m M) : MoAt K cs H' m M := by
  obtain ⟨dx, x0, x1, x2, x3, x4, x5, x6, x7, x8, x9, x10, h, a0, a1, a2, a3, a4, a5, a6, a7, a8, a9, a10⟩ := h
  exact ⟨dx, x0, x1, x2, x3, x4, x5, x6, x7, x8, x9, x10, e _ _ h, a0.same e, a1.same e, a2.same e, a3.same e, a4.same e, a5.same e, a6.same e, a7.same e, a8.same e, a9.same e, a10.same e⟩
def impsOf (M : Mo) (kind : Str) : List PyData := (M.imps.filter fun r => decide (r.2.2.1 = kind)).map (·.2.2.2)
theorem impsOf_len (M : Mo) (kind : Str) : (impsOf M kind).length ≤ M.imps.length := by unfold impsOf; rw [List.length_map]; exact List.length_filter_le ..
def funsD (M : Mo) : List PyData := impsOf M "func" ++ M.funs.map fun f => natD f.1
def tabsD (M : Mo) : List PyData := impsOf M "table" ++ M.tabs
def memsD (M : Mo) : List PyData := impsOf M "memory" ++ M.mems
def varsD (M : Mo) : List PyData := impsOf M "global" ++ M.vars.map fun v => .tuple [.str v.1, .bool v.2.1]
def tagsD (M : Mo) : List PyData := impsOf M "tag" ++ M.tags.map natD
/-- a new list of such data -/
def giveL (K : PySem.W.Frag) (H : Hp) (Q : VK) (ds : List PyData) : Prop := ∀ l H' xs, H l = none → Same H H' → H' l = some (.lst xs) → DtA K H' xs ds → Q (.ref l) H'
def sp_imported_items (K : PySem.W.Frag) (cs : Cs) : Sp := fun vs H Q _ => ∃ (m : Addr) (M : Mo) (kind : Str), vs = [.ref m, .str kind] ∧ MoAt K cs H m M ∧ M.small ∧ giveL K H Q (impsOf M kind)
def spL (K : PySem.W.Frag) (cs : Cs) (f : Mo → List PyData) : Sp := fun vs H Q _ => ∃ (m : Addr) (M : Mo), vs = [.ref m] ∧ MoAt K cs H m M ∧ M.small ∧ giveL K H Q (f M)
def sp_function_signatures (K : PySem.W.Frag) (cs : Cs) : Sp := spL K cs funsD
def sp_table_limits (K : PySem.W.Frag) (cs : Cs) : Sp := spL K cs tabsD
def sp_memory_limits (K : PySem.W.Frag) (cs : Cs) : Sp := spL K cs memsD
def sp_global_heads (K : PySem.W.Frag) (cs : Cs) : Sp := spL K cs varsD
def sp_tag_signatures (K : PySem.W.Frag) (cs : Cs) : Sp := spL K cs tagsD
theorem cat_DA {K : PySem.W.Frag} {H : Hp} {Q : VK} {x y : V} {ds es : List PyData} (h1 : Dt K H x (.tuple ds)) (h2 : Dt K H y (.tuple es)) (hl : ds.length + es.length ≤ 1000000) (q : ∀ v H', Same H H' → Dt K H' v (.tuple (ds ++ es)) → Q v H') : rCatA K x y H Q := by
  obtain ⟨a, xs, rfl, hs, ha⟩ := h1.vtup
  obtain ⟨b, ys, rfl, ht, hb⟩ := h2.vtup
  have l1 := ha.len
  have l2 := hb.len
  refine ⟨a, b, xs, ys, rfl, rfl, hs, ht, small64 (by omega), fun e => ?_, fun _ e => ?_, fun _ _ p hp => q _ _ (Same.new hp) (.tup (SqT.of upd_same) ((ha.app hb).same (Same.new hp)))⟩
  · subst e
    have e2 : ds = [] := by cases ds with
      | nil => rfl
      | cons _ _ => cases l1
    subst e2
    exact q _ H (Same.refl H) h2
  · subst e
    have e2 : es = [] := by cases es with
      | nil => rfl
      | cons _ _ => cases l2
    subst e2
    exact q _ H (Same.refl H) (by rw [List.append_nil]; exact h1)
theorem DtA.vstrs {K : PySem.W.Frag} {H : Hp} : ∀ {vs : List V} {zs : List Str}, DtA K H vs (zs.map PyData.str) → vs = zs.map V.str
  | [], [], _ => rfl
  | _ :: _, _ :: _, .cons h t => by rw [h.vstr, t.vstrs]; rfl
theorem DtA.vnats {K : PySem.W.Frag} {H : Hp} : ∀ {vs : List V} {ns : List Nat}, DtA K H vs (ns.map natD) → vs = ns.map fun (n : Nat) => V.int (n : Int)
  | [], [], _ => rfl
  | _ :: _, _ :: _, .cons h t => by rw [h.vint, t.vnats]; rfl
theorem Dt.sqS {K : PySem.W.Frag} {H : Hp} {v : V} {zs : List Str} (h : Dt K H v (tupS zs)) : ∃ a, v = .ref a ∧ SqT K H a (zs.map V.str) := by
  obtain ⟨a, xs, rfl, hs, ha⟩ := h.vtup
  rw [ha.vstrs] at hs
  exact ⟨a, rfl, hs⟩
/-- a step in which one object alone changes -/
structure Stp (K : PySem.W.Frag) (p : Addr) (H H' : Hp) : Prop where
  but : SameBut [p] H H'
  ti : Ti K H H'
theorem Stp.same {K : PySem.W.Frag} {p : Addr} {H H1 H2 : Hp} (a : Stp K p H H1) (s : Same H1 H2) : Stp K p H H2 := ⟨a.but.trans (Same.but s), a.ti.trans (Same.ti s)⟩
theorem Stp.put {K : PySem.W.Frag} {p C dx C' dx' : Addr} {fs fs' : List (Str × V)} {H H1 : Hp} (a : Stp K p H H1) (h : H1 p = some (.ins C dx fs)) : Stp K p H (upd H1 p (.ins C' dx' fs')) := ⟨a.but.upd (List.mem_singleton.mpr rfl), a.ti.trans (Ti.put h (fun _ z => nomatch z) (fun _ _ z => nomatch z))⟩
theorem Stp.refl {K : PySem.W.Frag} {p : Addr} {H : Hp} : Stp K p H H := ⟨SameBut.refl H, Ti.refl H⟩
theorem Stp.trans {K : PySem.W.Frag} {p : Addr} {H H1 H2 : Hp} (a : Stp K p H H1) (b : Stp K p H1 H2) : Stp K p H H2 := ⟨a.but.trans b.but, a.ti.trans b.ti⟩
theorem Stp.lst {K : PySem.W.Frag} {p l C dx : Addr} {fs : List (Str × V)} {xs : List V} {H H1 : Hp} (a : Stp K p H H1) (hp : H p = some (.ins C dx fs)) (h : H l = some (.lst xs)) : H1 l = some (.lst xs) := a.but _ _ (fun z => by rw [List.mem_singleton] at z; subst z; rw [hp] at h; cases h) h
theorem MoAt.stp {K : PySem.W.Frag} {cs : Cs} {H H' : Hp} {m p : Addr} {M : Mo} (e : Stp K p H H') (n : m ≠ p) (h : MoAt K cs H m M) : MoAt K cs H' m M := by
  obtain ⟨dx, x0, x1, x2, x3, x4, x5, x6, x7, x8, x9, x10, h, a0, a1, a2, a3, a4, a5, a6, a7, a8, a9, a10⟩ := h
  exact ⟨dx, x0, x1, x2, x3, x4, x5, x6, x7, x8, x9, x10, e.but _ _ (fun z => n (List.mem_singleton.mp z)) h, a0.ti e.ti, a1.ti e.ti, a2.ti e.ti, a3.ti e.ti, a4.ti e.ti, a5.ti e.ti, a6.ti e.ti, a7.ti e.ti, a8.ti e.ti, a9.ti e.ti, a10.ti e.ti⟩
def notLv (o : HO) : Prop := ∀ C dx x y z, o ≠ .ins C dx (fs_Level x y z)
theorem nl_lst {xs : List V} : notLv (.lst xs) := fun _ _ _ _ _ z => nomatch z
theorem nl_fs {C dx : Addr} {k : Str} {v : V} {fs : List (Str × V)} (h : k ≠ "floor") : notLv (.ins C dx ((k, v) :: fs)) := fun _ _ _ _ _ z => by
  have := (HO.ins.inj z).2.2
  unfold fs_Level at this
  exact h (congrArg Prod.fst (List.cons.inj this).1)
theorem nl_walker {C dx : Addr} {x0 x1 x2 x3 : V} : notLv (.ins C dx (fs_Walker x0 x1 x2 x3)) := nl_fs (by decide +kernel)
theorem nl_stack {C dx : Addr} {x0 x1 : V} : notLv (.ins C dx (fs_KindStack x0 x1)) := nl_fs (by decide +kernel)
theorem nl_scope {C dx : Addr} {x0 x1 x2 x3 x4 x5 x6 x7 x8 : V} : notLv (.ins C dx (fs_Scope x0 x1 x2 x3 x4 x5 x6 x7 x8)) := nl_fs (by decide +kernel)
theorem nl_module {C dx : Addr} {x0 x1 x2 x3 x4 x5 x6 x7 x8 x9 x10 : V} : notLv (.ins C dx (fs_Module x0 x1 x2 x3 x4 x5 x6 x7 x8 x9 x10)) := nl_fs (by decide +kernel)
def ScFix (K : PySem.W.Frag) (cs : Cs) (H : Hp) (sc lb : Addr) (c : Ctx) : Prop := ∃ (dx sl rs sg fi ti hs : Addr), H sc = some (.ins cs.C_Scope dx (fs_Scope (.ref sl) (.ref rs) (.ref lb) (.ref sg) (.ref fi) (.ref ti) (.ref hs) (.int (c.tabs : Int)) (.int (c.mems : Int)))) ∧ SqT K H sl (c.slots.map V.str) ∧ SqT K H rs (c.results.map V.str) ∧
    Dt K H (.ref sg) (.tuple (c.sigs.map sgD)) ∧ H fi = some (.lst (c.funs.map fun (n : Nat) => V.int (n : Int))) ∧ H ti = some (.lst (c.tags.map fun (n : Nat) => V.int (n : Int))) ∧ ∃ xs, H hs = some (.lst xs) ∧ DtA K H xs (c.heads.map hdD)
def sp_Scope___init__ (K : PySem.W.Frag) (cs : Cs) : Sp := fun vs H Q _ => ∃ (p dx m : Addr) (M : Mo) (sg ow : V) (sgn : List Str × List Str) (own : List Str) (c : Ctx), vs = [.ref p, .ref m, sg, ow] ∧ H p = some (.ins cs.C_Scope dx []) ∧ MoAt K cs H m M ∧ M.small ∧
  Dt K H sg (sgD sgn) ∧ Dt K H ow (tupS own) ∧ (sgn.1.length + own.length ≤ 1000) ∧ c.slots = sgn.1 ++ own ∧ c.results = sgn.2 ∧ c.sigs = M.sigs ∧ funsD M = c.funs.map natD ∧ tagsD M = c.tags.map natD ∧ varsD M = c.heads.map hdD ∧ c.tabs = (tabsD M).length ∧ c.mems = (memsD M).length ∧
  ∀ (lb : Addr) (H' : Hp), SameBut [p] H H' → ScAt K cs H' p lb c [] → H lb = none → (∀ H'', (∀ b o, b ≠ lb → notLv o → (∀ C dx, o ≠ .ins C dx []) → H' b = some o → H'' b = some o) → ScFix K cs H'' p lb c) → Q .non H'
section
variable {P : Program} {w : World} {K : PySem.W.Frag} {mg : Str → Option Value} {base : Heap} {cs : Cs}
theorem c_imported_items (D : Def K mg "imported_items" s_imported_items ["module", "kind"]) (T : Tp w K mg cs)  : Cal P w K mg base CX0 1 "imported_items" (sp_imported_items K cs) := by
  refine D.ok sc_imported_items (fun vs H Q E h => ?_) (fun f cdv A outer s H vs Q E hr h => ?_)
  · obtain ⟨m, M, kind, rfl, _⟩ := h; rfl
  · obtain ⟨m, M, kind, rfl, ⟨dx, x0, x1, x2, x3, x4, x5, x6, x7, x8, x9, x10, hm, a0, a1, a2, a3, a4, a5, a6, a7, a8, a9, a10⟩, sm, q⟩ := h
    obtain ⟨im, xs, rfl, hi, hia⟩ := a1.vtup
    have lx := hia.len
    rw [List.length_map] at lx
    have sm1 := sm.1
    refine ⟨_, (pss_one (ps_ret (pe_lc (own := [("row", 2)]) (g := gName 2) (tt := _) (by rfl) sc_imported_items.nd (pi_tup (pe_fld (pv 0) rfl)) (blkOk_by (own := [("row", 2)]) (N := ["module", "kind", "row"]) (sc := defScope s_imported_items) (by decide +kernel)) (fun _ _ _ _ _ => (pg_name (i := 2) sc_imported_items.nd rfl (by first | exact Or.inl rfl | exact Or.inr rfl))) (fun _ _ _ _ _ => pts_one (pt_cmpR op_eq (pe_ix ix_tupB (pv 2) pe_int (fun _ _ => rfl)) (pv 1) (by first | rfl | exact nomark _))) (fun _ _ _ _ _ => (pe_ix ix_tupB (pv 2) pe_int (fun _ _ => rfl)))))), ?_⟩
    walk_at "go"
    refine ⟨m, _, dx, _, _, rfl, hm, T.cl_Module, T.n_Module_imports, lk_Module_imports, ?_⟩
    walk_at "go"
    refine ⟨⟨xs, hi⟩, fun D hD => ?_⟩
    refine lcD_tup (K := K) (fun i => ((M.imps.take i).filter (fun r => decide (r.2.2.1 = kind))).map (·.2.2.2)) hD hi (by omega) rfl (fun i x H1 hx s1 => ?_) (fun H' ys s h1 h2 h3 => ?_)
    · intro Y N hy hn
      obtain ⟨d, ed, hd⟩ := hia.geti hx
      rw [List.getElem?_map] at ed
      obtain ⟨r, er, erd⟩ := Option.map_eq_some_iff.mp ed
      subst erd
      obtain ⟨b, y0, y1, y2, y3, rfl, hb, t0, t1, t2, t3⟩ := (hd.same s1).four
      have v2 := t2.vstr
      subst v2
      walk_at "go"
      refine ite2 (fun cc => ?_) (fun cc => ?_)
      · have e2 : decide (r.2.2.1 = kind) = true := by rw [decide_eq_true (V.str.inj (of_decide_eq_true cc))]
        walk_at "go"
        exact hy y3 _ _ (Same.refl _) t3 (filt_take_yes _ _ er e2)
      · have e2 : decide (r.2.2.1 = kind) = false := by
          refine decide_eq_false fun e => cc ?_
          rw [e]; exact decide_eq_true rfl
        exact hn _ (Same.refl _) (filt_take_no _ _ er e2)
    · refine q _ _ _ hD s h1 ?_
      rw [lx, List.take_length] at h2
      exact h2
theorem c_function_signatures (D : Def K mg "function_signatures" s_function_signatures ["module"]) (T : Tp w K mg cs) (c_imported_items : Cal P w K mg base CX0 1 "imported_items" (sp_imported_items K cs)) : Cal P w K mg base CX0 2 "function_signatures" (sp_function_signatures K cs) := by
  refine D.ok sc_function_signatures (fun vs H Q E h => ?_) (fun f cdv A outer s H vs Q E hr h => ?_)
  · obtain ⟨m, M, rfl, _⟩ := h; rfl
  · obtain ⟨m, M, rfl, hM, sm, q⟩ := h
    obtain ⟨dx, x0, x1, x2, x3, x4, x5, x6, x7, x8, x9, x10, hm, a0, a1, a2, a3, a4, a5, a6, a7, a8, a9, a10⟩ := id hM
    have ci := impsOf_len M "func"
    obtain ⟨im, ys, rfl, hi, hia⟩ := a2.vtup
    have ly := hia.len
    rw [List.length_map] at ly
    have sm1 := sm.1
    have sm2 := sm.2.1
    refine ⟨_, (pss_one (ps_ret (pe_op op_cat (pe_c c_imported_items hr (by decide) (by rfl) (pa_cons (pv 0) (pa_cons pe_str pa_nil))) (pe_lc (own := [("function", 1)]) (g := gName 1) (tt := tYes) (by rfl) sc_function_signatures.nd (pi_tup (pe_fld (pv 0) rfl)) (blkOk_by (own := [("function", 1)]) (N := ["module", "function"]) (sc := defScope s_function_signatures) (by decide +kernel)) (fun _ _ _ _ _ => (pg_name (i := 1) sc_function_signatures.nd rfl (by first | exact Or.inl rfl | exact Or.inr rfl))) (fun _ _ _ _ _ => pts_nil) (fun _ _ _ _ _ => (pe_ix ix_tupB (pv 1) pe_int (fun _ _ => rfl))))))), ?_⟩
    walk_at "go"
    refine ⟨m, M, _, rfl, hM, sm, fun l H1 xs _ s1 e1 d1 => ?_⟩
    have lx := d1.len
    walk_at "go"
    refine ⟨m, _, dx, _, _, rfl, s1 _ _ hm, T.cl_Module, T.n_Module_functions, lk_Module_functions, ?_⟩
    walk_at "go"
    have hi1 := Same.ti s1 _ _ hi
    refine ⟨⟨ys, hi1⟩, fun D hD => ?_⟩
    refine lcD_tup (K := K) (fun i => (M.funs.take i).map (fun f => natD f.1)) hD hi1 (by omega) rfl (fun i x H2 hx s2 => ?_) (fun H2 zs s2 h1 h2 h3 => ?_)
    · intro Y N hy hn
      obtain ⟨d, ed, hd⟩ := (hia.same (s1.trans s2)).geti hx
      rw [List.getElem?_map] at ed
      obtain ⟨r, er, erd⟩ := Option.map_eq_some_iff.mp ed
      subst erd
      simp only [tYes, if_true]
      obtain ⟨b, y0, y1, y2, rfl, hb, t0, t1, t2⟩ := hd.three
      have v0 := t0.vint
      subst v0
      walk_at "go"
      exact hy _ _ _ (Same.refl _) (.int _) (map_take_snoc _ er)
    · rw [ly, List.take_length] at h2
      have lz := h2.len
      rw [List.length_map] at lz
      refine ⟨l, D, xs, zs, rfl, rfl, s2 _ _ e1, h1, small64 (by omega), fun l2 n2 => ?_⟩
      exact q l2 _ _ (none_of (s1.trans s2) n2) ((s1.trans s2).trans (Same.new n2)) upd_same (((d1.same s2).app h2).same (Same.new n2))
theorem c_table_limits (D : Def K mg "table_limits" s_table_limits ["module"]) (T : Tp w K mg cs) (c_imported_items : Cal P w K mg base CX0 1 "imported_items" (sp_imported_items K cs)) : Cal P w K mg base CX0 2 "table_limits" (sp_table_limits K cs) := by
  refine D.ok sc_table_limits (fun vs H Q E h => ?_) (fun f cdv A outer s H vs Q E hr h => ?_)
  · obtain ⟨m, M, rfl, _⟩ := h; rfl
  · obtain ⟨m, M, rfl, hM, sm, q⟩ := h
    obtain ⟨dx, x0, x1, x2, x3, x4, x5, x6, x7, x8, x9, x10, hm, a0, a1, a2, a3, a4, a5, a6, a7, a8, a9, a10⟩ := id hM
    have ci := impsOf_len M "table"
    obtain ⟨im, ys, rfl, hi, hia⟩ := a3.vtup
    have ly := hia.len
    have sm1 := sm.1
    have sm2 := sm.2.2.1
    refine ⟨_, (pss_one (ps_ret (pe_op op_cat (pe_c c_imported_items hr (by decide) (by rfl) (pa_cons (pv 0) (pa_cons pe_str pa_nil))) (pe_callTy call_list_of (by rfl) T.m_list (by decide +kernel) (pa_cons (pe_fld (pv 0) rfl) pa_nil))))), ?_⟩
    walk_at "go"
    refine ⟨m, M, _, rfl, hM, sm, fun l H1 xs _ s1 e1 d1 => ?_⟩
    have lx := d1.len
    walk_at "go"
    refine ⟨m, _, dx, _, _, rfl, s1 _ _ hm, T.cl_Module, T.n_Module_tables, lk_Module_tables, ?_⟩
    walk_at "go"
    refine ⟨im, ys, rfl, .inr (Same.ti s1 _ _ hi), fun l1 n1 => ?_⟩
    refine ⟨l, l1, xs, ys, rfl, rfl, Same.new n1 _ _ e1, upd_same, small64 (by omega), fun l2 n2 => ?_⟩
    exact q l2 _ _ (none_of (s1.trans (Same.new n1)) n2) ((s1.trans (Same.new n1)).trans (Same.new n2)) upd_same (((d1.app (hia.same s1)).same (Same.new n1)).same (Same.new n2))
theorem c_memory_limits (D : Def K mg "memory_limits" s_memory_limits ["module"]) (T : Tp w K mg cs) (c_imported_items : Cal P w K mg base CX0 1 "imported_items" (sp_imported_items K cs)) : Cal P w K mg base CX0 2 "memory_limits" (sp_memory_limits K cs) := by
  refine D.ok sc_memory_limits (fun vs H Q E h => ?_) (fun f cdv A outer s H vs Q E hr h => ?_)
  · obtain ⟨m, M, rfl, _⟩ := h; rfl
  · obtain ⟨m, M, rfl, hM, sm, q⟩ := h
    obtain ⟨dx, x0, x1, x2, x3, x4, x5, x6, x7, x8, x9, x10, hm, a0, a1, a2, a3, a4, a5, a6, a7, a8, a9, a10⟩ := id hM
    have ci := impsOf_len M "memory"
    obtain ⟨im, ys, rfl, hi, hia⟩ := a4.vtup
    have ly := hia.len
    have sm1 := sm.1
    have sm2 := sm.2.2.2.1
    refine ⟨_, (pss_one (ps_ret (pe_op op_cat (pe_c c_imported_items hr (by decide) (by rfl) (pa_cons (pv 0) (pa_cons pe_str pa_nil))) (pe_callTy call_list_of (by rfl) T.m_list (by decide +kernel) (pa_cons (pe_fld (pv 0) rfl) pa_nil))))), ?_⟩
    walk_at "go"
    refine ⟨m, M, _, rfl, hM, sm, fun l H1 xs _ s1 e1 d1 => ?_⟩
    have lx := d1.len
    walk_at "go"
    refine ⟨m, _, dx, _, _, rfl, s1 _ _ hm, T.cl_Module, T.n_Module_memories, lk_Module_memories, ?_⟩
    walk_at "go"
    refine ⟨im, ys, rfl, .inr (Same.ti s1 _ _ hi), fun l1 n1 => ?_⟩
    refine ⟨l, l1, xs, ys, rfl, rfl, Same.new n1 _ _ e1, upd_same, small64 (by omega), fun l2 n2 => ?_⟩
    exact q l2 _ _ (none_of (s1.trans (Same.new n1)) n2) ((s1.trans (Same.new n1)).trans (Same.new n2)) upd_same (((d1.app (hia.same s1)).same (Same.new n1)).same (Same.new n2))
theorem c_tag_signatures (D : Def K mg "tag_signatures" s_tag_signatures ["module"]) (T : Tp w K mg cs) (c_imported_items : Cal P w K mg base CX0 1 "imported_items" (sp_imported_items K cs)) : Cal P w K mg base CX0 2 "tag_signatures" (sp_tag_signatures K cs) := by
  refine D.ok sc_tag_signatures (fun vs H Q E h => ?_) (fun f cdv A outer s H vs Q E hr h => ?_)
  · obtain ⟨m, M, rfl, _⟩ := h; rfl
  · obtain ⟨m, M, rfl, hM, sm, q⟩ := h
    obtain ⟨dx, x0, x1, x2, x3, x4, x5, x6, x7, x8, x9, x10, hm, a0, a1, a2, a3, a4, a5, a6, a7, a8, a9, a10⟩ := id hM
    have ci := impsOf_len M "tag"
    obtain ⟨im, ys, rfl, hi, hia⟩ := a5.vtup
    have ly := hia.len
    rw [List.length_map] at ly
    have sm1 := sm.1
    have sm2 := sm.2.2.2.2.1
    refine ⟨_, (pss_one (ps_ret (pe_op op_cat (pe_c c_imported_items hr (by decide) (by rfl) (pa_cons (pv 0) (pa_cons pe_str pa_nil))) (pe_callTy call_list_of (by rfl) T.m_list (by decide +kernel) (pa_cons (pe_fld (pv 0) rfl) pa_nil))))), ?_⟩
    walk_at "go"
    refine ⟨m, M, _, rfl, hM, sm, fun l H1 xs _ s1 e1 d1 => ?_⟩
    have lx := d1.len
    walk_at "go"
    refine ⟨m, _, dx, _, _, rfl, s1 _ _ hm, T.cl_Module, T.n_Module_tags, lk_Module_tags, ?_⟩
    walk_at "go"
    refine ⟨im, ys, rfl, .inr (Same.ti s1 _ _ hi), fun l1 n1 => ?_⟩
    refine ⟨l, l1, xs, ys, rfl, rfl, Same.new n1 _ _ e1, upd_same, small64 (by omega), fun l2 n2 => ?_⟩
    exact q l2 _ _ (none_of (s1.trans (Same.new n1)) n2) ((s1.trans (Same.new n1)).trans (Same.new n2)) upd_same (((d1.app (hia.same s1)).same (Same.new n1)).same (Same.new n2))
theorem c_global_heads (D : Def K mg "global_heads" s_global_heads ["module"]) (T : Tp w K mg cs) (c_imported_items : Cal P w K mg base CX0 1 "imported_items" (sp_imported_items K cs)) : Cal P w K mg base CX0 2 "global_heads" (sp_global_heads K cs) := by
  refine D.ok sc_global_heads (fun vs H Q E h => ?_) (fun f cdv A outer s H vs Q E hr h => ?_)
  · obtain ⟨m, M, rfl, _⟩ := h; rfl
  · obtain ⟨m, M, rfl, hM, sm, q⟩ := h
    obtain ⟨dx, x0, x1, x2, x3, x4, x5, x6, x7, x8, x9, x10, hm, a0, a1, a2, a3, a4, a5, a6, a7, a8, a9, a10⟩ := id hM
    have ci := impsOf_len M "global"
    obtain ⟨im, ys, rfl, hi, hia⟩ := a6.vtup
    have ly := hia.len
    rw [List.length_map] at ly
    have sm1 := sm.1
    have sm2 := sm.2.2.2.2.2
    refine ⟨_, (pss_one (ps_ret (pe_op op_cat (pe_c c_imported_items hr (by decide) (by rfl) (pa_cons (pv 0) (pa_cons pe_str pa_nil))) (pe_lc (own := [("variable", 1)]) (g := gName 1) (tt := tYes) (by rfl) sc_global_heads.nd (pi_tup (pe_fld (pv 0) rfl)) (blkOk_by (own := [("variable", 1)]) (N := ["module", "variable"]) (sc := defScope s_global_heads) (by decide +kernel)) (fun _ _ _ _ _ => (pg_name (i := 1) sc_global_heads.nd rfl (by first | exact Or.inl rfl | exact Or.inr rfl))) (fun _ _ _ _ _ => pts_nil) (fun _ _ _ _ _ => (pe_slice sl_tupB (pv 1) po_none (po_some pe_int))))))), ?_⟩
    walk_at "go"
    refine ⟨m, M, _, rfl, hM, sm, fun l H1 xs _ s1 e1 d1 => ?_⟩
    have lx := d1.len
    walk_at "go"
    refine ⟨m, _, dx, _, _, rfl, s1 _ _ hm, T.cl_Module, T.n_Module_variables, lk_Module_variables, ?_⟩
    walk_at "go"
    have hi1 := Same.ti s1 _ _ hi
    refine ⟨⟨ys, hi1⟩, fun D hD => ?_⟩
    refine lcD_tup (K := K) (fun i => (M.vars.take i).map (fun v => .tuple [.str v.1, .bool v.2.1])) hD hi1 (by omega) rfl (fun i x H2 hx s2 => ?_) (fun H2 zs s2 h1 h2 h3 => ?_)
    · intro Y N hy hn
      obtain ⟨d, ed, hd⟩ := (hia.same (s1.trans s2)).geti hx
      rw [List.getElem?_map] at ed
      obtain ⟨r, er, erd⟩ := Option.map_eq_some_iff.mp ed
      subst erd
      simp only [tYes, if_true]
      walk_at "go"
      refine sl_toD (k := 2) hd (by show 2 < 3; decide) fun p H4 s4 h4 => ?_
      exact hy _ _ _ s4 h4 (map_take_snoc _ er)
    · rw [ly, List.take_length] at h2
      have lz := h2.len
      rw [List.length_map] at lz
      refine ⟨l, D, xs, zs, rfl, rfl, s2 _ _ e1, h1, small64 (by omega), fun l2 n2 => ?_⟩
      exact q l2 _ _ (none_of (s1.trans s2) n2) ((s1.trans s2).trans (Same.new n2)) upd_same (((d1.same s2).app h2).same (Same.new n2))
theorem c_Scope___init__ (D : DefI K (Cs.C_Scope cs) "Scope.__init__" s_Scope___init__ ["self", "module", "signature", "own_kinds"]) (T : Tp w K mg cs) (c_function_signatures : Cal P w K mg base CX0 2 "function_signatures" (sp_function_signatures K cs)) (c_tag_signatures : Cal P w K mg base CX0 2 "tag_signatures" (sp_tag_signatures K cs)) (c_global_heads : Cal P w K mg base CX0 2 "global_heads" (sp_global_heads K cs)) (c_table_limits : Cal P w K mg base CX0 2 "table_limits" (sp_table_limits K cs)) (c_memory_limits : Cal P w K mg base CX0 2 "memory_limits" (sp_memory_limits K cs)) : CalI P w K mg base CX0 (Cs.C_Scope cs) 3 (sp_Scope___init__ K cs) := by
  refine D.ok sc_Scope___init__ (fun vs H Q E h => ?_) (fun f cdv A outer s H vs Q E hr h => ?_)
  · obtain ⟨p, dx, m, M, sg, ow, sgn, own, c, rfl, _⟩ := h; rfl
  · obtain ⟨p, dx, m, M, sg, ow, sgn, own, c, rfl, hp, hM, sm, hsg, how, ho, e1, e2, e3, e4, e5, e6, e7, e8, q⟩ := h
    obtain ⟨sa, u0, u1, rfl, hsq, t0, t1⟩ := hsg.two
    have nmp : m ≠ p := fun z => by
      obtain ⟨dm, x0, x1, x2, x3, x4, x5, x6, x7, x8, x9, x10, hm, _⟩ := hM
      rw [z, hp] at hm
      injection hm with hm
      injection hm with _ _ h3
      unfold fs_Module at h3
      exact nomatch h3
    refine ⟨_, (pss_cons (ps_asg (pv 2) (pg_tup (by rfl) (pgs_cons (pg_name (i := 4) sc_Scope___init__.nd rfl (by first | exact Or.inl rfl | exact Or.inr rfl)) (pgs_cons (pg_name (i := 5) sc_Scope___init__.nd rfl (by first | exact Or.inl rfl | exact Or.inr rfl)) pgs_nil))))
      (pss_cons (ps_fld (pv 0) (pe_op op_catA (pv 4) (pv 3)) rfl)
      (pss_cons (ps_fld (pv 0) (pv 5) rfl)
      (pss_cons (ps_fld (pv 0) (pe_lst pa_nil) rfl)
      (pss_cons (ps_fld (pv 0) (pe_fld (pv 1) rfl) rfl)
      (pss_cons (ps_fld (pv 0) (pe_c c_function_signatures hr (by decide) (by rfl) (pa_cons (pv 1) pa_nil)) rfl)
      (pss_cons (ps_fld (pv 0) (pe_c c_tag_signatures hr (by decide) (by rfl) (pa_cons (pv 1) pa_nil)) rfl)
      (pss_cons (ps_fld (pv 0) (pe_c c_global_heads hr (by decide) (by rfl) (pa_cons (pv 1) pa_nil)) rfl)
      (pss_cons (ps_fld (pv 0) (pe_callB call_len_seq (by rfl) T.m_len PySem.boot_len (pa_cons (pe_c c_table_limits hr (by decide) (by rfl) (pa_cons (pv 1) pa_nil)) pa_nil)) rfl)
      (pss_one (ps_fld (pv 0) (pe_callB call_len_seq (by rfl) T.m_len PySem.boot_len (pa_cons (pe_c c_memory_limits hr (by decide) (by rfl) (pa_cons (pv 1) pa_nil)) pa_nil)) rfl))))))))))), ?_⟩
    walk_at "go"
    refine ⟨sa, [u0, u1], rfl, hsq, rfl, ?_⟩
    walk_at "go"
    refine cat_DA t0 how (by rw [List.length_map, List.length_map]; omega) fun v H1 s1 hv => ?_
    have k1 := s1 _ _ hp
    have S1 : Stp K p H H1 := Stp.refl.same s1
    refine ⟨_, rfl, p, _, dx, _, rfl, k1, T.cl_Scope, T.n_Scope_slots, (by show 0 < 1000; decide), ?_⟩
    rw [in_Scope_0 (x0 := v) (x1 := .non) (x2 := .non) (x3 := .non) (x4 := .non) (x5 := .non) (x6 := .non) (x7 := .non) (x8 := .non)]
    have S2 := S1.put (C' := cs.C_Scope) (dx' := dx) (fs' := [("slots", v)]) k1
    have E2 := (Stp.refl (K := K) (p := p) (H := H1)).put (C' := cs.C_Scope) (dx' := dx) (fs' := [("slots", v)]) k1
    generalize g2 : upd H1 p _ = H2 at S2 E2
    have k2 : H2 p = some (.ins cs.C_Scope dx [("slots", v)]) := by rw [← g2]; exact upd_same
    refine ⟨_, rfl, _, rfl, p, _, dx, _, rfl, k2, T.cl_Scope, T.n_Scope_results, (by show 1 < 1000; decide), ?_⟩
    rw [in_Scope_1 (x0 := v) (x1 := u1) (x2 := .non) (x3 := .non) (x4 := .non) (x5 := .non) (x6 := .non) (x7 := .non) (x8 := .non)]
    have S3 := S2.put (C' := cs.C_Scope) (dx' := dx) (fs' := [("slots", v), ("results", u1)]) k2
    have E3 := (Stp.refl (K := K) (p := p) (H := H2)).put (C' := cs.C_Scope) (dx' := dx) (fs' := [("slots", v), ("results", u1)]) k2
    generalize g3 : upd H2 p _ = H3 at S3 E3
    have k3 : H3 p = some (.ins cs.C_Scope dx [("slots", v), ("results", u1)]) := by rw [← g3]; exact upd_same
    walk_at "go"
    intro lb nlb
    generalize g4 : upd H3 lb _ = H4
    obtain ⟨s4, kl4⟩ := newO nlb g4
    clear g4
    have S4 := S3.same s4
    have E4 := (Stp.refl (K := K) (p := p) (H := H3)).same s4
    have k4 := s4 _ _ k3
    refine ⟨_, rfl, p, _, dx, _, rfl, k4, T.cl_Scope, T.n_Scope_labels, (by show 2 < 1000; decide), ?_⟩
    rw [in_Scope_2 (x0 := v) (x1 := u1) (x2 := .ref lb) (x3 := .non) (x4 := .non) (x5 := .non) (x6 := .non) (x7 := .non) (x8 := .non)]
    have S5 := S4.put (C' := cs.C_Scope) (dx' := dx) (fs' := [("slots", v), ("results", u1), ("labels", .ref lb)]) k4
    have E5 := (Stp.refl (K := K) (p := p) (H := H4)).put (C' := cs.C_Scope) (dx' := dx) (fs' := [("slots", v), ("results", u1), ("labels", .ref lb)]) k4
    generalize g5 : upd H4 p _ = H5 at S5 E5
    have k5 : H5 p = some (.ins cs.C_Scope dx [("slots", v), ("results", u1), ("labels", .ref lb)]) := by rw [← g5]; exact upd_same
    walk_at "go"
    obtain ⟨dm, x0, x1, x2, x3, x4, x5, x6, x7, x8, x9, x10, hm, a0, _⟩ := id hM
    refine ⟨m, _, dm, _, _, rfl, S5.but _ _ (fun z => nmp (List.mem_singleton.mp z)) hm, T.cl_Module, T.n_Module_signatures, lk_Module_signatures, ?_⟩
    refine ⟨_, rfl, p, _, dx, _, rfl, k5, T.cl_Scope, T.n_Scope_signatures, (by show 3 < 1000; decide), ?_⟩
    rw [in_Scope_3 (x0 := v) (x1 := u1) (x2 := .ref lb) (x3 := x0) (x4 := .non) (x5 := .non) (x6 := .non) (x7 := .non) (x8 := .non)]
    have S6 := S5.put (C' := cs.C_Scope) (dx' := dx) (fs' := [("slots", v), ("results", u1), ("labels", .ref lb), ("signatures", x0)]) k5
    have E6 := (Stp.refl (K := K) (p := p) (H := H5)).put (C' := cs.C_Scope) (dx' := dx) (fs' := [("slots", v), ("results", u1), ("labels", .ref lb), ("signatures", x0)]) k5
    generalize g6 : upd H5 p _ = H6 at S6 E6
    have k6 : H6 p = some (.ins cs.C_Scope dx [("slots", v), ("results", u1), ("labels", .ref lb), ("signatures", x0)]) := by rw [← g6]; exact upd_same
    walk_at "go"
    refine ⟨m, M, rfl, hM.stp S6 nmp, sm, fun fi H7 fs nfi s7 bf df => ?_⟩
    have S7 := S6.same s7
    have E7 := (Stp.refl (K := K) (p := p)).same s7
    have k7 := s7 _ _ k6
    refine ⟨_, rfl, p, _, dx, _, rfl, k7, T.cl_Scope, T.n_Scope_function_indexes, (by show 4 < 1000; decide), ?_⟩
    rw [in_Scope_4 (x0 := v) (x1 := u1) (x2 := .ref lb) (x3 := x0) (x4 := .ref fi) (x5 := .non) (x6 := .non) (x7 := .non) (x8 := .non)]
    have S8 := S7.put (C' := cs.C_Scope) (dx' := dx) (fs' := [("slots", v), ("results", u1), ("labels", .ref lb), ("signatures", x0), ("function_indexes", .ref fi)]) k7
    have E8 := (Stp.refl (K := K) (p := p) (H := H7)).put (C' := cs.C_Scope) (dx' := dx) (fs' := [("slots", v), ("results", u1), ("labels", .ref lb), ("signatures", x0), ("function_indexes", .ref fi)]) k7
    generalize g8 : upd H7 p _ = H8 at S8 E8
    have k8 : H8 p = some (.ins cs.C_Scope dx [("slots", v), ("results", u1), ("labels", .ref lb), ("signatures", x0), ("function_indexes", .ref fi)]) := by rw [← g8]; exact upd_same
    walk_at "go"
    refine ⟨m, M, rfl, hM.stp S8 nmp, sm, fun ti H9 ts0 nti s9 bt dt => ?_⟩
    have S9 := S8.same s9
    have E9 := (Stp.refl (K := K) (p := p)).same s9
    have k9 := s9 _ _ k8
    refine ⟨_, rfl, p, _, dx, _, rfl, k9, T.cl_Scope, T.n_Scope_tag_indexes, (by show 5 < 1000; decide), ?_⟩
    rw [in_Scope_5 (x0 := v) (x1 := u1) (x2 := .ref lb) (x3 := x0) (x4 := .ref fi) (x5 := .ref ti) (x6 := .non) (x7 := .non) (x8 := .non)]
    have S10 := S9.put (C' := cs.C_Scope) (dx' := dx) (fs' := [("slots", v), ("results", u1), ("labels", .ref lb), ("signatures", x0), ("function_indexes", .ref fi), ("tag_indexes", .ref ti)]) k9
    have E10 := (Stp.refl (K := K) (p := p) (H := H9)).put (C' := cs.C_Scope) (dx' := dx) (fs' := [("slots", v), ("results", u1), ("labels", .ref lb), ("signatures", x0), ("function_indexes", .ref fi), ("tag_indexes", .ref ti)]) k9
    generalize g10 : upd H9 p _ = H10 at S10 E10
    have k10 : H10 p = some (.ins cs.C_Scope dx [("slots", v), ("results", u1), ("labels", .ref lb), ("signatures", x0), ("function_indexes", .ref fi), ("tag_indexes", .ref ti)]) := by rw [← g10]; exact upd_same
    walk_at "go"
    refine ⟨m, M, rfl, hM.stp S10 nmp, sm, fun hs H11 hs0 nhs s11 bh dh => ?_⟩
    have S11 := S10.same s11
    have E11 := (Stp.refl (K := K) (p := p)).same s11
    have k11 := s11 _ _ k10
    refine ⟨_, rfl, p, _, dx, _, rfl, k11, T.cl_Scope, T.n_Scope_heads, (by show 6 < 1000; decide), ?_⟩
    rw [in_Scope_6 (x0 := v) (x1 := u1) (x2 := .ref lb) (x3 := x0) (x4 := .ref fi) (x5 := .ref ti) (x6 := .ref hs) (x7 := .non) (x8 := .non)]
    have S12 := S11.put (C' := cs.C_Scope) (dx' := dx) (fs' := [("slots", v), ("results", u1), ("labels", .ref lb), ("signatures", x0), ("function_indexes", .ref fi), ("tag_indexes", .ref ti), ("heads", .ref hs)]) k11
    have E12 := (Stp.refl (K := K) (p := p) (H := H11)).put (C' := cs.C_Scope) (dx' := dx) (fs' := [("slots", v), ("results", u1), ("labels", .ref lb), ("signatures", x0), ("function_indexes", .ref fi), ("tag_indexes", .ref ti), ("heads", .ref hs)]) k11
    generalize g12 : upd H11 p _ = H12 at S12 E12
    have k12 : H12 p = some (.ins cs.C_Scope dx [("slots", v), ("results", u1), ("labels", .ref lb), ("signatures", x0), ("function_indexes", .ref fi), ("tag_indexes", .ref ti), ("heads", .ref hs)]) := by rw [← g12]; exact upd_same
    walk_at "go"
    refine ⟨m, M, rfl, hM.stp S12 nmp, sm, fun l13 H13 ts _ s13 bu du => ?_⟩
    have S13 := S12.same s13
    have E13 := (Stp.refl (K := K) (p := p)).same s13
    have k13 := s13 _ _ k12
    walk_at "go"
    refine ⟨l13, _, rfl, .inl (SqL.of bu), ?_⟩
    refine ⟨_, rfl, p, _, dx, _, rfl, k13, T.cl_Scope, T.n_Scope_table_count, (by show 7 < 1000; decide), ?_⟩
    rw [in_Scope_7 (x0 := v) (x1 := u1) (x2 := .ref lb) (x3 := x0) (x4 := .ref fi) (x5 := .ref ti) (x6 := .ref hs) (x7 := .int (ts.length : Int)) (x8 := .non)]
    have S14 := S13.put (C' := cs.C_Scope) (dx' := dx) (fs' := [("slots", v), ("results", u1), ("labels", .ref lb), ("signatures", x0), ("function_indexes", .ref fi), ("tag_indexes", .ref ti), ("heads", .ref hs), ("table_count", .int (ts.length : Int))]) k13
    have E14 := (Stp.refl (K := K) (p := p) (H := H13)).put (C' := cs.C_Scope) (dx' := dx) (fs' := [("slots", v), ("results", u1), ("labels", .ref lb), ("signatures", x0), ("function_indexes", .ref fi), ("tag_indexes", .ref ti), ("heads", .ref hs), ("table_count", .int (ts.length : Int))]) k13
    generalize g14 : upd H13 p _ = H14 at S14 E14
    have k14 : H14 p = some (.ins cs.C_Scope dx [("slots", v), ("results", u1), ("labels", .ref lb), ("signatures", x0), ("function_indexes", .ref fi), ("tag_indexes", .ref ti), ("heads", .ref hs), ("table_count", .int (ts.length : Int))]) := by rw [← g14]; exact upd_same
    walk_at "go"
    refine ⟨m, M, rfl, hM.stp S14 nmp, sm, fun l15 H15 ms _ s15 bv dv => ?_⟩
    have S15 := S14.same s15
    have E15 := (Stp.refl (K := K) (p := p)).same s15
    have k15 := s15 _ _ k14
    walk_at "go"
    refine ⟨l15, _, rfl, .inl (SqL.of bv), ?_⟩
    refine ⟨_, rfl, p, _, dx, _, rfl, k15, T.cl_Scope, T.n_Scope_memory_count, (by show 8 < 1000; decide), ?_⟩
    rw [in_Scope_8 (x0 := v) (x1 := u1) (x2 := .ref lb) (x3 := x0) (x4 := .ref fi) (x5 := .ref ti) (x6 := .ref hs) (x7 := .int (ts.length : Int)) (x8 := .int (ms.length : Int))]
    have S16 := S15.put (C' := cs.C_Scope) (dx' := dx) (fs' := [("slots", v), ("results", u1), ("labels", .ref lb), ("signatures", x0), ("function_indexes", .ref fi), ("tag_indexes", .ref ti), ("heads", .ref hs), ("table_count", .int (ts.length : Int)), ("memory_count", .int (ms.length : Int))]) k15
    have E16 := (Stp.refl (K := K) (p := p) (H := H15)).put (C' := cs.C_Scope) (dx' := dx) (fs' := [("slots", v), ("results", u1), ("labels", .ref lb), ("signatures", x0), ("function_indexes", .ref fi), ("tag_indexes", .ref ti), ("heads", .ref hs), ("table_count", .int (ts.length : Int)), ("memory_count", .int (ms.length : Int))]) k15
    generalize g16 : upd H15 p _ = H16 at S16 E16
    have k16 : H16 p = some (.ins cs.C_Scope dx [("slots", v), ("results", u1), ("labels", .ref lb), ("signatures", x0), ("function_indexes", .ref fi), ("tag_indexes", .ref ti), ("heads", .ref hs), ("table_count", .int (ts.length : Int)), ("memory_count", .int (ms.length : Int))]) := by rw [← g16]; exact upd_same
    have hv' : Dt K H16 v (tupS c.slots) := by rw [e1]; unfold tupS; rw [List.map_append]; exact hv.ti (Stp.ti (E2.trans (E3.trans (E4.trans (E5.trans (E6.trans (E7.trans (E8.trans (E9.trans (E10.trans (E11.trans (E12.trans (E13.trans (E14.trans (E15.trans (E16))))))))))))))))
    obtain ⟨sl, rfl, hsl⟩ := hv'.sqS
    obtain ⟨rs, rfl, hrs⟩ := (show Dt K H16 u1 (tupS sgn.2) from t1.ti S16.ti).sqS
    obtain ⟨sgr, zs, rfl, _⟩ := a0.vtup
    rw [e4] at df
    rw [e5] at dt
    rw [e6] at dh
    have lt : ts.length = c.tabs := by rw [e7]; exact du.len
    have lm : ms.length = c.mems := by rw [e8]; exact dv.len
    rw [lt, lm] at k16
    rw [df.vnats] at bf
    rw [dt.vnats] at bt
    have nl : H lb = none := by
      cases h : H lb with
      | none => rfl
      | some o =>
        have z := S3.but lb o (fun z => by rw [List.mem_singleton] at z; subst z; rw [k3] at nlb; cases nlb) h
        rw [nlb] at z; cases z
    have fin : ScAt K cs H16 p lb c [] := ⟨⟨dx, sl, rs, sgr, fi, ti, hs, k16, hsl, by rw [e2]; exact hrs, by rw [e3]; exact a0.ti S16.ti, Stp.lst (E8.trans (E9.trans (E10.trans (E11.trans (E12.trans (E13.trans (E14.trans (E15.trans (E16))))))))) k7 bf, Stp.lst (E10.trans (E11.trans (E12.trans (E13.trans (E14.trans (E15.trans (E16))))))) k9 bt, hs0, Stp.lst (E12.trans (E13.trans (E14.trans (E15.trans (E16))))) k11 bh, dh.ti (Stp.ti (E12.trans (E13.trans (E14.trans (E15.trans (E16))))))⟩, [], Stp.lst (E5.trans (E6.trans (E7.trans (E8.trans (E9.trans (E10.trans (E11.trans (E12.trans (E13.trans (E14.trans (E15.trans (E16)))))))))))) k4 kl4, .nil⟩
    have kl16 : H16 lb = some (.lst []) := Stp.lst (E5.trans (E6.trans (E7.trans (E8.trans (E9.trans (E10.trans (E11.trans (E12.trans (E13.trans (E14.trans (E15.trans (E16))))))))))) ) k4 kl4
    refine q lb H16 S16.but fin nl fun G hG => ?_
    have tG : Ti K H16 G := fun a xs qq => by
      rcases qq with (qq | ⟨b, qq⟩) | qq
      · exact .inl (.inl (hG _ _ (fun z => by subst z; rw [kl16] at qq; cases qq) (fun _ _ _ _ _ z => nomatch z) (fun _ _ z => nomatch z) qq))
      · exact .inl (.inr ⟨b, hG _ _ (fun z => by subst z; rw [kl16] at qq; cases qq) (fun _ _ _ _ _ z => nomatch z) (fun _ _ z => nomatch z) qq⟩)
      · exact .inr qq
    have klb : ∀ {Hx : Hp}, Stp K p H5 Hx → Hx lb = some (.lst []) := fun hx => Stp.lst hx k5 (Stp.lst E5 k4 kl4)
    have nf : fi ≠ lb := fun z => by subst z; rw [klb E6] at nfi; cases nfi
    have nt : ti ≠ lb := fun z => by subst z; rw [klb (E6.trans (E7.trans E8))] at nti; cases nti
    have nh : hs ≠ lb := fun z => by subst z; rw [klb (E6.trans (E7.trans (E8.trans (E9.trans E10))))] at nhs; cases nhs
    have nx : p ≠ lb := fun z => by subst z; rw [k16] at kl16; cases kl16
    exact ⟨dx, sl, rs, sgr, fi, ti, hs, hG _ _ nx nl_scope (fun _ _ z => nomatch (HO.ins.inj z).2.2) k16, tG _ _ hsl, tG _ _ (by rw [e2]; exact hrs), by rw [e3]; exact (a0.ti S16.ti).ti tG, hG _ _ nf nl_lst (fun _ _ z => nomatch z) (Stp.lst (E8.trans (E9.trans (E10.trans (E11.trans (E12.trans (E13.trans (E14.trans (E15.trans (E16))))))))) k7 bf), hG _ _ nt nl_lst (fun _ _ z => nomatch z) (Stp.lst (E10.trans (E11.trans (E12.trans (E13.trans (E14.trans (E15.trans (E16))))))) k9 bt), hs0, hG _ _ nh nl_lst (fun _ _ z => nomatch z) (Stp.lst (E12.trans (E13.trans (E14.trans (E15.trans (E16))))) k11 bh), (dh.ti (Stp.ti (E12.trans (E13.trans (E14.trans (E15.trans (E16))))))).ti tG⟩
end

def SA (K : PySem.W.Frag) (cs : Cs) (f : Addr) (sp : Sp) : Prop := (f = cs.f_function_signatures ∧ sp = spL K cs funsD) ∨ (f = cs.f_table_limits ∧ sp = spL K cs tabsD) ∨ (f = cs.f_memory_limits ∧ sp = spL K cs memsD) ∨ (f = cs.f_global_heads ∧ sp = spL K cs varsD) ∨ (f = cs.f_tag_signatures ∧ sp = spL K cs tagsD)
def sortD (M : Mo) (z : Str) : Option (List PyData) := if z = "func" then some (funsD M) else if z = "table" then some (tabsD M) else if z = "memory" then some (memsD M) else if z = "global" then some (varsD M) else if z = "tag" then some (tagsD M) else none
def sp_all_items (K : PySem.W.Frag) (cs : Cs) : Sp := fun vs H Q _ => ∃ (m : Addr) (M : Mo) (z : Str) (ds : List PyData), vs = [.ref m, .str z] ∧ MoAt K cs H m M ∧ M.small ∧ sortD M z = some ds ∧ giveL K H Q ds
def sp_count_items (K : PySem.W.Frag) (cs : Cs) : Sp := fun vs H Q _ => ∃ (m : Addr) (M : Mo) (z : Str) (ds : List PyData), vs = [.ref m, .str z] ∧ MoAt K cs H m M ∧ M.small ∧ sortD M z = some ds ∧ ∀ H', Same H H' → Q (.int (ds.length : Int)) H'
section
variable {P : Program} {w : World} {K : PySem.W.Frag} {mg : Str → Option Value} {base : Heap} {cs : Cs}
theorem c_all_items (D : Def K mg "all_items" s_all_items ["module", "sort"]) (T : Tp w K mg cs) (c_function_signatures : Cal P w K mg base CX0 2 "function_signatures" (sp_function_signatures K cs)) (c_table_limits : Cal P w K mg base CX0 2 "table_limits" (sp_table_limits K cs)) (c_memory_limits : Cal P w K mg base CX0 2 "memory_limits" (sp_memory_limits K cs)) (c_global_heads : Cal P w K mg base CX0 2 "global_heads" (sp_global_heads K cs)) (c_tag_signatures : Cal P w K mg base CX0 2 "tag_signatures" (sp_tag_signatures K cs)) : Cal P w K mg base CX0 3 "all_items" (sp_all_items K cs) := by
  refine D.ok sc_all_items (fun vs H Q E h => ?_) (fun f cdv A outer s H vs Q E hr h => ?_)
  · obtain ⟨m, M, z, ds, rfl, _⟩ := h; rfl
  · obtain ⟨m, M, z, ds, rfl, hM, sm, hz, q⟩ := h
    have A1 : ∀ f sp, SA K cs f sp → ∃ y, Cal P w K mg base CX0 2 y sp ∧ mg y = some (.ref f) := by
      intro f sp hS
      rcases hS with ⟨rfl, rfl⟩ | ⟨rfl, rfl⟩ | ⟨rfl, rfl⟩ | ⟨rfl, rfl⟩ | ⟨rfl, rfl⟩
      · exact ⟨_, c_function_signatures, T.h_function_signatures⟩
      · exact ⟨_, c_table_limits, T.h_table_limits⟩
      · exact ⟨_, c_memory_limits, T.h_memory_limits⟩
      · exact ⟨_, c_global_heads, T.h_global_heads⟩
      · exact ⟨_, c_tag_signatures, T.h_tag_signatures⟩
    have ev : ∃ f g, valS (v_LISTS cs) z = some (.ref f) ∧ SA K cs f (spL K cs g) ∧ ds = g M := by
      unfold sortD at hz
      split at hz
      · rename_i e; subst e; cases hz; exact ⟨_, _, rfl, .inl ⟨rfl, rfl⟩, rfl⟩
      split at hz
      · rename_i e; subst e; cases hz; exact ⟨_, _, rfl, .inr (.inl ⟨rfl, rfl⟩), rfl⟩
      split at hz
      · rename_i e; subst e; cases hz; exact ⟨_, _, rfl, .inr (.inr (.inl ⟨rfl, rfl⟩)), rfl⟩
      split at hz
      · rename_i e; subst e; cases hz; exact ⟨_, _, rfl, .inr (.inr (.inr (.inl ⟨rfl, rfl⟩))), rfl⟩
      split at hz
      · rename_i e; subst e; cases hz; exact ⟨_, _, rfl, .inr (.inr (.inr (.inr ⟨rfl, rfl⟩))), rfl⟩
      · cases hz
    obtain ⟨f1, g, ef, hS, rfl⟩ := ev
    refine ⟨_, (pss_cons (ps_set (i := 2) sc_all_items.nd rfl (by first | exact Or.inl rfl | exact Or.inr rfl) (pe_ix (ix_T T.d_LISTS) (pe_glob (v := .ref cs.t_LISTS) (by rfl) T.g_LISTS rfl) (pv 1) (fun _ _ => rfl)))
      (pss_one (ps_ret (pe_callT (i := 2) (S := SA K cs) (C := CX0) (E := E0) (k := 2) A1 hr (by decide) rfl (by first | exact Or.inl rfl | exact Or.inr rfl) pass0 (pa_cons (pv 0) pa_nil))))), ?_⟩
    walk_at "go"
    refine ⟨z, _, rfl, rfl, ef, ?_⟩
    walk_at "go"
    refine ⟨f1, _, rfl, hS, ?_⟩
    walk_at "go"
    exact ⟨m, M, rfl, hM, sm, q⟩
theorem c_count_items (D : Def K mg "count_items" s_count_items ["module", "sort"]) (T : Tp w K mg cs) (c_all_items : Cal P w K mg base CX0 3 "all_items" (sp_all_items K cs)) : Cal P w K mg base CX0 4 "count_items" (sp_count_items K cs) := by
  refine D.ok sc_count_items (fun vs H Q E h => ?_) (fun f cdv A outer s H vs Q E hr h => ?_)
  · obtain ⟨m, M, z, ds, rfl, _⟩ := h; rfl
  · obtain ⟨m, M, z, ds, rfl, hM, sm, hz, q⟩ := h
    refine ⟨_, (pss_one (ps_ret (pe_callB call_len_seq (by rfl) T.m_len PySem.boot_len (pa_cons (pe_c c_all_items hr (by decide) (by rfl) (pa_cons (pv 0) (pa_cons (pv 1) pa_nil))) pa_nil)))), ?_⟩
    walk_at "go"
    refine ⟨m, M, z, ds, rfl, hM, sm, hz, fun l H1 xs _ s1 e1 d1 => ?_⟩
    walk_at "go"
    refine ⟨l, _, rfl, .inl (SqL.of e1), ?_⟩
    rw [d1.len]
    exact q H1 s1
end

/-! ### what the instructions take and give -/
def kdsD (ks : List Kd) : PyData := .tuple (ks.map kdD)
def effD (e : Eff) : PyData := .tuple [kdsD e.1, kdsD e.2]
/-- a rule for one instruction with one number -/
def spR (K : PySem.W.Frag) (cs : Cs) (nm : Str) (f : Ctx → Wk → Nat → Except Str Eff) : Sp := fun vs H Q E => ∃ (sc lb : Addr) (c : Ctx) (w : Wk) (iv : V) (n : Nat), vs = [.ref sc, iv] ∧ ScAt K cs H sc lb c w.labels ∧ (∀ ks ∈ w.labels, ks.length ≤ 1000) ∧ Dt K H iv (.tuple [.str nm, .int (n : Int)]) ∧
  (∀ e, f c w n = .ok e → ∀ v H', Same H H' → Dt K H' v (effD e) → Q v H') ∧ (∀ r, f c w n = .error r → Flt cs H E r)
def sp_local_get (K : PySem.W.Frag) (cs : Cs) : Sp := spR K cs "local.get" fun c _ n => (orE "unknown local" (c.slots[n]?)).map (fun k => ([], [some k]))
def sp_local_set (K : PySem.W.Frag) (cs : Cs) : Sp := spR K cs "local.set" fun c _ n => (orE "unknown local" (c.slots[n]?)).map (fun k => ([some k], []))
def sp_local_tee (K : PySem.W.Frag) (cs : Cs) : Sp := spR K cs "local.tee" fun c _ n => (orE "unknown local" (c.slots[n]?)).map (fun k => ([some k], [some k]))
theorem eff1_get (c : Ctx) (w : Wk) (n : Nat) : eff1 c w "local.get" n = (orE "unknown local" (c.slots[n]?)).map (fun k => ([], [some k])) := rfl
theorem eff1_set (c : Ctx) (w : Wk) (n : Nat) : eff1 c w "local.set" n = (orE "unknown local" (c.slots[n]?)).map (fun k => ([some k], [])) := rfl
def sp_global_get (K : PySem.W.Frag) (cs : Cs) : Sp := spR K cs "global.get" fun c _ n => (orE "unknown global" (c.heads[n]?)).map (fun h => ([], [some h.1]))
def sp_br (K : PySem.W.Frag) (cs : Cs) : Sp := spR K cs "br" fun _ w n => (orE "unknown label" (labelOf w n)).map (fun ks => (oSome ks, []))
def sp_call (K : PySem.W.Frag) (cs : Cs) : Sp := spR K cs "call" fun c _ n => (orE "unknown function" (funOf c n)).map (fun s => (oSome s.1, oSome s.2))
def sp_throw (K : PySem.W.Frag) (cs : Cs) : Sp := spR K cs "throw" fun c _ n => (orE "unknown tag" (tagOf c n)).map (fun ks => (oSome ks, []))
theorem eff1_tee (c : Ctx) (w : Wk) (n : Nat) : eff1 c w "local.tee" n = (orE "unknown local" (c.slots[n]?)).map (fun k => ([some k], [some k])) := rfl
theorem eff1_gget (c : Ctx) (w : Wk) (n : Nat) : eff1 c w "global.get" n = (orE "unknown global" (c.heads[n]?)).map (fun h => ([], [some h.1])) := rfl
theorem eff1_br (c : Ctx) (w : Wk) (n : Nat) : eff1 c w "br" n = (orE "unknown label" (labelOf w n)).map (fun ks => (oSome ks, [])) := rfl
theorem eff1_call (c : Ctx) (w : Wk) (n : Nat) : eff1 c w "call" n = (orE "unknown function" (funOf c n)).map (fun s => (oSome s.1, oSome s.2)) := rfl
theorem eff1_throw (c : Ctx) (w : Wk) (n : Nat) : eff1 c w "throw" n = (orE "unknown tag" (tagOf c n)).map (fun ks => (oSome ks, [])) := rfl
theorem kdsD_S (ks : List Str) : kdsD (oSome ks) = tupS ks := (kds_tupS ks).symm
theorem effD_S (s : List Str × List Str) : effD (oSome s.1, oSome s.2) = sgD s := by unfold effD; rw [kdsD_S, kdsD_S]; rfl
def sp_global_set (K : PySem.W.Frag) (cs : Cs) : Sp := spR K cs "global.set" fun c _ n => (orE "unknown global" (c.heads[n]?)).bind (fun h => if h.2 = true then .ok ([some h.1], []) else .error "global is immutable")
def sp_br_if (K : PySem.W.Frag) (cs : Cs) : Sp := spR K cs "br_if" fun _ w n => (orE "unknown label" (labelOf w n)).map (fun ks => (oSome ks ++ i32K, oSome ks))
theorem eff1_gset (c : Ctx) (w : Wk) (n : Nat) : eff1 c w "global.set" n = (orE "unknown global" (c.heads[n]?)).bind (fun h => if h.2 = true then .ok ([some h.1], []) else .error "global is immutable") := rfl
theorem eff1_brif (c : Ctx) (w : Wk) (n : Nat) : eff1 c w "br_if" n = (orE "unknown label" (labelOf w n)).map (fun ks => (oSome ks ++ i32K, oSome ks)) := rfl
def sp_return_effect (K : PySem.W.Frag) (cs : Cs) : Sp := fun vs H Q _ => ∃ (sc lb : Addr) (c : Ctx) (ls : List (List Str)) (iv : V), vs = [.ref sc, iv] ∧ ScAt K cs H sc lb c ls ∧ ∀ v H', Same H H' → Dt K H' v (effD (oSome c.results, [])) → Q v H'
/-- no label takes more kinds than this -/
def lblOk (ls : List (List Str)) : Prop := ∀ ks ∈ ls, ks.length ≤ 1000
theorem label_mem {w : Wk} {n : Nat} {ks : List Str} (h : labelOf w n = some ks) : ks ∈ w.labels := by
  unfold labelOf at h
  split at h
  · exact List.mem_of_getElem? h
  · cases h
def fInd (c : Ctx) (n m : Nat) : Except Str Eff := if c.tabs ≤ m then .error "unknown table" else (orE "unknown signature" (c.sigs[n]?)).map (fun s => (oSome s.1 ++ i32K, oSome s.2))
theorem eff2_ind (c : Ctx) (n m : Nat) : eff2 c "call_indirect" n m = fInd c n m := rfl
def sp_call_indirect (K : PySem.W.Frag) (cs : Cs) : Sp := fun vs H Q E => ∃ (sc lb : Addr) (c : Ctx) (ls : List (List Str)) (iv : V) (n m : Nat), vs = [.ref sc, iv] ∧ ScAt K cs H sc lb c ls ∧ (∀ s ∈ c.sigs, s.1.length ≤ 1000) ∧ Dt K H iv (.tuple [.str "call_indirect", .int (n : Int), .int (m : Int)]) ∧
  (∀ e, fInd c n m = .ok e → ∀ v H', Same H H' → Dt K H' v (effD e) → Q v H') ∧ (∀ r, fInd c n m = .error r → Flt cs H E r)
section
variable {P : Program} {w : World} {K : PySem.W.Frag} {mg : Str → Option Value} {base : Heap} {cs : Cs}
theorem c_local_get (D : Def K mg "local_get" s_local_get ["scope", "instruction"]) (T : Tp w K mg cs) (c_Scope_slot : CalM P w K mg base (L2.CX P w) (Cs.C_Scope cs) 3 "slot" (sp_Scope_slot K cs)) : Cal P w K mg base (L2.CX P w) 4 "local_get" (sp_local_get K cs) := by
  refine D.okX sc_local_get (fun vs H Q E h => ?_) (fun f cdv A outer s H vs Q E hr h => ?_)
  · obtain ⟨sc, lb, c, wk, iv, n, rfl, _⟩ := h; rfl
  · obtain ⟨sc, lb, c, wk, iv, n, rfl, hsc, lok, hi, q1, q2⟩ := h
    obtain ⟨ia, y0, y1, rfl, hia, t0, t1⟩ := hi.two
    have v1 := t1.vint
    subst v1
    obtain ⟨dx, sl, rs, sg, fi, ti, hs, hob, _⟩ := hsc.ob
    refine ⟨_, (pss_one (ps_ret (pe_tup (pa_cons (pe_tup pa_nil) (pa_cons (pe_tup (pa_cons (pe_mE c_Scope_slot hr (by decide) (passes_call (takes_of rfl rfl rfl rfl) (fun _ _ _ _ h => h)) (pv 0) (pa_cons (pe_ix ix_tup (pv 1) pe_int (fun _ _ => rfl)) pa_nil)) pa_nil)) pa_nil))))), ?_⟩
    walk_at "go"
    intro p1 n1; generalize g1 : upd H p1 _ = H1; obtain ⟨s1, d1⟩ := newT (K := K) (ds := []) n1 g1 .nil
    walk_at "go"
    refine ⟨sc, dx, _, rfl, s1 _ _ hob, no_Scope_slot, ?_⟩
    walk_at "go"
    refine ix_D (k := 1) (hi.same s1) rfl fun iw hw => ?_
    have vw := hw.vint
    subst vw
    refine ⟨sc, lb, c, wk.labels, n, rfl, hsc.same s1, fun d ed v hv => ?_, fun en => ?_⟩
    rotate_left
    · intro d Hf sf ef
      refine q2 _ ?_ d Hf (s1.trans sf) ef
      dsimp only at en
      have en' : c.slots[n]? = none := by cases h : c.slots[n]? with
        | none => rfl
        | some z => rw [h] at en; cases en
      dsimp only
      rw [en']; rfl
    have ⟨k, ek, ekd⟩ := Option.map_eq_some_iff.mp ed
    subst ekd
    walk_at "go"
    intro p2 n2; generalize g2 : upd H1 p2 _ = H2; obtain ⟨s2, d2⟩ := newT (K := K) (ds := [.str k]) n2 g2 (.cons hv .nil)
    walk_at "go"
    intro p3 n3; generalize g3 : upd H2 p3 _ = H3; obtain ⟨s3, d3⟩ := newT (K := K) (ds := [.tuple [], .tuple [.str k]]) n3 g3 (.cons (d1.same s2) (.cons d2 .nil))
    exact q1 ([], [some k]) (by dsimp only; rw [ek]; rfl) _ _ (s1.trans (s2.trans s3)) d3
theorem c_local_set (D : Def K mg "local_set" s_local_set ["scope", "instruction"]) (T : Tp w K mg cs) (c_Scope_slot : CalM P w K mg base (L2.CX P w) (Cs.C_Scope cs) 3 "slot" (sp_Scope_slot K cs)) : Cal P w K mg base (L2.CX P w) 4 "local_set" (sp_local_set K cs) := by
  refine D.okX sc_local_set (fun vs H Q E h => ?_) (fun f cdv A outer s H vs Q E hr h => ?_)
  · obtain ⟨sc, lb, c, wk, iv, n, rfl, _⟩ := h; rfl
  · obtain ⟨sc, lb, c, wk, iv, n, rfl, hsc, lok, hi, q1, q2⟩ := h
    obtain ⟨ia, y0, y1, rfl, hia, t0, t1⟩ := hi.two
    have v1 := t1.vint
    subst v1
    obtain ⟨dx, sl, rs, sg, fi, ti, hs, hob, _⟩ := hsc.ob
    refine ⟨_, (pss_one (ps_ret (pe_tup (pa_cons (pe_tup (pa_cons (pe_mE c_Scope_slot hr (by decide) (passes_call (takes_of rfl rfl rfl rfl) (fun _ _ _ _ h => h)) (pv 0) (pa_cons (pe_ix ix_tup (pv 1) pe_int (fun _ _ => rfl)) pa_nil)) pa_nil)) (pa_cons (pe_tup pa_nil) pa_nil))))), ?_⟩
    walk_at "go"
    have s1 := Same.refl H
    refine ⟨sc, dx, _, rfl, s1 _ _ hob, no_Scope_slot, ?_⟩
    walk_at "go"
    refine ⟨sc, lb, c, wk.labels, n, rfl, hsc.same s1, fun d ed v hv => ?_, fun en => ?_⟩
    rotate_left
    · intro d Hf sf ef
      refine q2 _ ?_ d Hf (s1.trans sf) ef
      dsimp only at en
      have en' : c.slots[n]? = none := by cases h : c.slots[n]? with
        | none => rfl
        | some z => rw [h] at en; cases en
      dsimp only
      rw [en']; rfl
    have ⟨k, ek, ekd⟩ := Option.map_eq_some_iff.mp ed
    subst ekd
    walk_at "go"
    intro p2 n2; generalize g2 : upd H p2 _ = H2; obtain ⟨s2, d2⟩ := newT (K := K) (ds := [.str k]) n2 g2 (.cons hv .nil)
    walk_at "go"
    intro p1 n1; generalize g1 : upd H2 p1 _ = H1; obtain ⟨s1, d1⟩ := newT (K := K) (ds := []) n1 g1 .nil
    walk_at "go"
    intro p3 n3; generalize g3 : upd H1 p3 _ = H3; obtain ⟨s3, d3⟩ := newT (K := K) (ds := [.tuple [.str k], .tuple []]) n3 g3 (.cons (d2.same s1) (.cons d1 .nil))
    exact q1 ([some k], []) (by dsimp only; rw [ek]; rfl) _ _ (s2.trans (s1.trans s3)) d3
theorem c_local_tee (D : Def K mg "local_tee" s_local_tee ["scope", "instruction"]) (T : Tp w K mg cs) (c_Scope_slot : CalM P w K mg base (L2.CX P w) (Cs.C_Scope cs) 3 "slot" (sp_Scope_slot K cs)) : Cal P w K mg base (L2.CX P w) 4 "local_tee" (sp_local_tee K cs) := by
  refine D.okX sc_local_tee (fun vs H Q E h => ?_) (fun f cdv A outer s H vs Q E hr h => ?_)
  · obtain ⟨sc, lb, c, wk, iv, n, rfl, _⟩ := h; rfl
  · obtain ⟨sc, lb, c, wk, iv, n, rfl, hsc, lok, hi, q1, q2⟩ := h
    obtain ⟨ia, y0, y1, rfl, hia, t0, t1⟩ := hi.two
    have v1 := t1.vint
    subst v1
    obtain ⟨dx, sl, rs, sg, fi, ti, hs, hob, _⟩ := hsc.ob
    refine ⟨_, (pss_cons (ps_set (i := 2) sc_local_tee.nd rfl (by first | exact Or.inl rfl | exact Or.inr rfl) (pe_tup (pa_cons (pe_mE c_Scope_slot hr (by decide) (passes_call (takes_of rfl rfl rfl rfl) (fun _ _ _ _ h => h)) (pv 0) (pa_cons (pe_ix ix_tup (pv 1) pe_int (fun _ _ => rfl)) pa_nil)) pa_nil)))
      (pss_one (ps_ret (pe_tup (pa_cons (pv 2) (pa_cons (pv 2) pa_nil)))))), ?_⟩
    walk_at "go"
    have s1 := Same.refl H
    refine ⟨sc, dx, _, rfl, s1 _ _ hob, no_Scope_slot, ?_⟩
    walk_at "go"
    refine ⟨sc, lb, c, wk.labels, n, rfl, hsc.same s1, fun d ed v hv => ?_, fun en => ?_⟩
    rotate_left
    · intro d Hf sf ef
      refine q2 _ ?_ d Hf (s1.trans sf) ef
      dsimp only at en
      have en' : c.slots[n]? = none := by cases h : c.slots[n]? with
        | none => rfl
        | some z => rw [h] at en; cases en
      dsimp only
      rw [en']; rfl
    have ⟨k, ek, ekd⟩ := Option.map_eq_some_iff.mp ed
    subst ekd
    walk_at "go"
    intro p2 n2; generalize g2 : upd H p2 _ = H2; obtain ⟨s2, d2⟩ := newT (K := K) (ds := [.str k]) n2 g2 (.cons hv .nil)
    walk_at "go"
    intro p3 n3; generalize g3 : upd H2 p3 _ = H3; obtain ⟨s3, d3⟩ := newT (K := K) (ds := [.tuple [.str k], .tuple [.str k]]) n3 g3 (.cons d2 (.cons d2 .nil))
    exact q1 ([some k], [some k]) (by dsimp only; rw [ek]; rfl) _ _ (s2.trans s3) d3
theorem c_global_get (D : Def K mg "global_get" s_global_get ["scope", "instruction"]) (T : Tp w K mg cs) (c_Scope_variable : CalM P w K mg base (L2.CX P w) (Cs.C_Scope cs) 3 "variable" (sp_Scope_variable K cs)) : Cal P w K mg base (L2.CX P w) 4 "global_get" (sp_global_get K cs) := by
  refine D.okX sc_global_get (fun vs H Q E h => ?_) (fun f cdv A outer s H vs Q E hr h => ?_)
  · obtain ⟨sc, lb, c, wk, iv, n, rfl, _⟩ := h; rfl
  · obtain ⟨sc, lb, c, wk, iv, n, rfl, hsc, lok, hi, q1, q2⟩ := h
    obtain ⟨ia, y0, y1, rfl, hia, t0, t1⟩ := hi.two
    have v1 := t1.vint
    subst v1
    obtain ⟨dx, sl, rs, sg, fi, ti, hs, hob, _⟩ := hsc.ob
    refine ⟨_, (pss_cons (ps_asg (pe_mE c_Scope_variable hr (by decide) (passes_call (takes_of rfl rfl rfl rfl) (fun _ _ _ _ h => h)) (pv 0) (pa_cons (pe_ix ix_tup (pv 1) pe_int (fun _ _ => rfl)) pa_nil)) (pg_tup (by rfl) (pgs_cons (pg_name (i := 2) sc_global_get.nd rfl (by first | exact Or.inl rfl | exact Or.inr rfl)) (pgs_cons (pg_name (i := 3) sc_global_get.nd rfl (by first | exact Or.inl rfl | exact Or.inr rfl)) pgs_nil))))
      (pss_one (ps_ret (pe_tup (pa_cons (pe_tup pa_nil) (pa_cons (pe_tup (pa_cons (pv 2) pa_nil)) pa_nil)))))), ?_⟩
    walk_at "go"
    have s1 := Same.refl H
    refine ⟨sc, dx, _, rfl, hob, no_Scope_variable, ?_⟩
    walk_at "go"
    refine ⟨sc, lb, c, wk.labels, n, rfl, hsc, fun d ed v hv => ?_, fun en => ?_⟩
    rotate_left
    · intro d Hf sf ef
      refine q2 _ ?_ d Hf sf ef
      have en1 : Option.map _ (c.heads[n]?) = none := en
      have en' : c.heads[n]? = none := by cases h : c.heads[n]? with
        | none => rfl
        | some z => rw [h] at en1; cases en1
      dsimp only
      rw [en']; rfl
    have ed1 : Option.map _ (c.heads[n]?) = some d := ed
    have ⟨k, ek, ekd⟩ := Option.map_eq_some_iff.mp ed1
    subst ekd
    obtain ⟨ha, b0, b1, rfl, hh, r0, r1⟩ := hv.two
    walk_at "go"
    refine ⟨ha, [b0, b1], rfl, hh, rfl, ?_⟩
    walk_at "go"
    intro p1 n1; generalize g1 : upd H p1 _ = H1; obtain ⟨s1, d1⟩ := newT (K := K) (ds := []) n1 g1 .nil
    walk_at "go"
    intro p2 n2; generalize g2 : upd H1 p2 _ = H2; obtain ⟨s2, d2⟩ := newT (K := K) (ds := [.str k.1]) n2 g2 (.cons (r0.same s1) .nil)
    walk_at "go"
    intro p3 n3; generalize g3 : upd H2 p3 _ = H3; obtain ⟨s3, d3⟩ := newT (K := K) (ds := [.tuple [], .tuple [.str k.1]]) n3 g3 (.cons (d1.same s2) (.cons d2 .nil))
    exact q1 ([], [some k.1]) (by dsimp only; rw [ek]; rfl) _ _ (s1.trans (s2.trans s3)) d3
theorem c_br (D : Def K mg "br" s_br ["scope", "instruction"]) (T : Tp w K mg cs) (c_Scope_label : CalM P w K mg base (L2.CX P w) (Cs.C_Scope cs) 3 "label" (sp_Scope_label K cs)) : Cal P w K mg base (L2.CX P w) 4 "br" (sp_br K cs) := by
  refine D.okX sc_br (fun vs H Q E h => ?_) (fun f cdv A outer s H vs Q E hr h => ?_)
  · obtain ⟨sc, lb, c, wk, iv, n, rfl, _⟩ := h; rfl
  · obtain ⟨sc, lb, c, wk, iv, n, rfl, hsc, lok, hi, q1, q2⟩ := h
    obtain ⟨ia, y0, y1, rfl, hia, t0, t1⟩ := hi.two
    have v1 := t1.vint
    subst v1
    obtain ⟨dx, sl, rs, sg, fi, ti, hs, hob, _⟩ := hsc.ob
    refine ⟨_, (pss_one (ps_ret (pe_tup (pa_cons (pe_mE c_Scope_label hr (by decide) (passes_call (takes_of rfl rfl rfl rfl) (fun _ _ _ _ h => h)) (pv 0) (pa_cons (pe_ix ix_tup (pv 1) pe_int (fun _ _ => rfl)) pa_nil)) (pa_cons (pe_tup pa_nil) pa_nil))))), ?_⟩
    walk_at "go"
    have s1 := Same.refl H
    refine ⟨sc, dx, _, rfl, hob, no_Scope_label, ?_⟩
    walk_at "go"
    refine ⟨sc, lb, c, wk.labels, n, rfl, hsc, fun d ed v hv => ?_, fun en => ?_⟩
    rotate_left
    · intro d Hf sf ef
      refine q2 _ ?_ d Hf sf ef
      have en1 : Option.map _ (labelOf wk n) = none := en
      have en' : labelOf wk n = none := by cases h : labelOf wk n with
        | none => rfl
        | some z => rw [h] at en1; cases en1
      dsimp only
      rw [en']; rfl
    have ed1 : Option.map _ (labelOf wk n) = some d := ed
    have ⟨ks, ek, ekd⟩ := Option.map_eq_some_iff.mp ed1
    subst ekd
    walk_at "go"
    intro p1 n1; generalize g1 : upd H p1 _ = H1; obtain ⟨s1, d1⟩ := newT (K := K) (ds := []) n1 g1 .nil
    walk_at "go"
    intro p3 n3; generalize g3 : upd H1 p3 _ = H3; obtain ⟨s3, d3⟩ := newT (K := K) (ds := [tupS ks, .tuple []]) n3 g3 (.cons (hv.same s1) (.cons d1 .nil))
    exact q1 (oSome ks, []) (by dsimp only; rw [ek]; rfl) _ _ (s1.trans s3) (by unfold effD; rw [kdsD_S]; exact d3)
theorem c_throw (D : Def K mg "throw" s_throw ["scope", "instruction"]) (T : Tp w K mg cs) (c_Scope_tag : CalM P w K mg base (L2.CX P w) (Cs.C_Scope cs) 3 "tag" (sp_Scope_tag K cs)) : Cal P w K mg base (L2.CX P w) 4 "throw" (sp_throw K cs) := by
  refine D.okX sc_throw (fun vs H Q E h => ?_) (fun f cdv A outer s H vs Q E hr h => ?_)
  · obtain ⟨sc, lb, c, wk, iv, n, rfl, _⟩ := h; rfl
  · obtain ⟨sc, lb, c, wk, iv, n, rfl, hsc, lok, hi, q1, q2⟩ := h
    obtain ⟨ia, y0, y1, rfl, hia, t0, t1⟩ := hi.two
    have v1 := t1.vint
    subst v1
    obtain ⟨dx, sl, rs, sg, fi, ti, hs, hob, _⟩ := hsc.ob
    refine ⟨_, (pss_one (ps_ret (pe_tup (pa_cons (pe_mE c_Scope_tag hr (by decide) (passes_call (takes_of rfl rfl rfl rfl) (fun _ _ _ _ h => h)) (pv 0) (pa_cons (pe_ix ix_tup (pv 1) pe_int (fun _ _ => rfl)) pa_nil)) (pa_cons (pe_tup pa_nil) pa_nil))))), ?_⟩
    walk_at "go"
    have s1 := Same.refl H
    refine ⟨sc, dx, _, rfl, hob, no_Scope_tag, ?_⟩
    walk_at "go"
    refine ⟨sc, lb, c, wk.labels, n, rfl, hsc, fun d ed v hv => ?_, fun en => ?_⟩
    rotate_left
    · intro d Hf sf ef
      refine q2 _ ?_ d Hf sf ef
      have en1 : Option.map _ (tagOf c n) = none := en
      have en' : tagOf c n = none := by cases h : tagOf c n with
        | none => rfl
        | some z => rw [h] at en1; cases en1
      dsimp only
      rw [en']; rfl
    have ed1 : Option.map _ (tagOf c n) = some d := ed
    have ⟨ks, ek, ekd⟩ := Option.map_eq_some_iff.mp ed1
    subst ekd
    walk_at "go"
    intro p1 n1; generalize g1 : upd H p1 _ = H1; obtain ⟨s1, d1⟩ := newT (K := K) (ds := []) n1 g1 .nil
    walk_at "go"
    intro p3 n3; generalize g3 : upd H1 p3 _ = H3; obtain ⟨s3, d3⟩ := newT (K := K) (ds := [tupS ks, .tuple []]) n3 g3 (.cons (hv.same s1) (.cons d1 .nil))
    exact q1 (oSome ks, []) (by dsimp only; rw [ek]; rfl) _ _ (s1.trans s3) (by unfold effD; rw [kdsD_S]; exact d3)
theorem c_call (D : Def K mg "call" s_call ["scope", "instruction"]) (T : Tp w K mg cs) (c_Scope_function : CalM P w K mg base (L2.CX P w) (Cs.C_Scope cs) 3 "function" (sp_Scope_function K cs)) : Cal P w K mg base (L2.CX P w) 4 "call" (sp_call K cs) := by
  refine D.okX sc_call (fun vs H Q E h => ?_) (fun f cdv A outer s H vs Q E hr h => ?_)
  · obtain ⟨sc, lb, c, wk, iv, n, rfl, _⟩ := h; rfl
  · obtain ⟨sc, lb, c, wk, iv, n, rfl, hsc, lok, hi, q1, q2⟩ := h
    obtain ⟨ia, y0, y1, rfl, hia, t0, t1⟩ := hi.two
    have v1 := t1.vint
    subst v1
    obtain ⟨dx, sl, rs, sg, fi, ti, hs, hob, _⟩ := hsc.ob
    refine ⟨_, (pss_one (ps_ret (pe_mE c_Scope_function hr (by decide) (passes_call (takes_of rfl rfl rfl rfl) (fun _ _ _ _ h => h)) (pv 0) (pa_cons (pe_ix ix_tup (pv 1) pe_int (fun _ _ => rfl)) pa_nil)))), ?_⟩
    walk_at "go"
    have s1 := Same.refl H
    refine ⟨sc, dx, _, rfl, hob, no_Scope_function, ?_⟩
    walk_at "go"
    refine ⟨sc, lb, c, wk.labels, n, rfl, hsc, fun d ed v hv => ?_, fun en => ?_⟩
    rotate_left
    · intro d Hf sf ef
      refine q2 _ ?_ d Hf sf ef
      have en1 : Option.map _ (funOf c n) = none := en
      have en' : funOf c n = none := by cases h : funOf c n with
        | none => rfl
        | some z => rw [h] at en1; cases en1
      dsimp only
      rw [en']; rfl
    have ed1 : Option.map _ (funOf c n) = some d := ed
    have ⟨z, ek, ekd⟩ := Option.map_eq_some_iff.mp ed1
    subst ekd
    walk_at "go"
    exact q1 (oSome z.1, oSome z.2) (by dsimp only; rw [ek]; rfl) _ _ (Same.refl _) (by rw [effD_S]; exact hv)
theorem c_global_set (D : Def K mg "global_set" s_global_set ["scope", "instruction"]) (T : Tp w K mg cs) (c_Scope_variable : CalM P w K mg base (L2.CX P w) (Cs.C_Scope cs) 3 "variable" (sp_Scope_variable K cs)) : Cal P w K mg base (L2.CX P w) 4 "global_set" (sp_global_set K cs) := by
  refine D.okX sc_global_set (fun vs H Q E h => ?_) (fun f cdv A outer s H vs Q E hr h => ?_)
  · obtain ⟨sc, lb, c, wk, iv, n, rfl, _⟩ := h; rfl
  · obtain ⟨sc, lb, c, wk, iv, n, rfl, hsc, lok, hi, q1, q2⟩ := h
    obtain ⟨ia, y0, y1, rfl, hia, t0, t1⟩ := hi.two
    have v1 := t1.vint
    subst v1
    obtain ⟨dx, sl, rs, sg, fi, ti, hs, hob, _⟩ := hsc.ob
    refine ⟨_, (pss_cons (ps_asg (pe_mE c_Scope_variable hr (by decide) (passes_call (takes_of rfl rfl rfl rfl) (fun _ _ _ _ h => h)) (pv 0) (pa_cons (pe_ix ix_tup (pv 1) pe_int (fun _ _ => rfl)) pa_nil)) (pg_tup (by rfl) (pgs_cons (pg_name (i := 2) sc_global_set.nd rfl (by first | exact Or.inl rfl | exact Or.inr rfl)) (pgs_cons (pg_name (i := 3) sc_global_set.nd rfl (by first | exact Or.inl rfl | exact Or.inr rfl)) pgs_nil))))
      (pss_cons (ps_if (pt_not (pt_val (pv 3))) (pss_one (ps_raise rfl (takes_of rfl rfl rfl rfl) (pmk_oex T.e_CodeFault.T T.iC_CodeFault T.tI_CodeFault (in_CodeFault T) (hr.mono (by decide)) T.b_CodeFault .nil pass0 (by rfl) T.e_CodeFault.g (pa_cons pe_str pa_nil)))) pss_nil)
      (pss_one (ps_ret (pe_tup (pa_cons (pe_tup (pa_cons (pv 2) pa_nil)) (pa_cons (pe_tup pa_nil) pa_nil))))))), ?_⟩
    walk_at "go"
    have s1 := Same.refl H
    refine ⟨sc, dx, _, rfl, hob, no_Scope_variable, ?_⟩
    walk_at "go"
    refine ⟨sc, lb, c, wk.labels, n, rfl, hsc, fun d ed v hv => ?_, fun en => ?_⟩
    rotate_left
    · intro d Hf sf ef
      refine q2 _ ?_ d Hf sf ef
      have en1 : Option.map _ (c.heads[n]?) = none := en
      have en' : c.heads[n]? = none := by cases h : c.heads[n]? with
        | none => rfl
        | some z => rw [h] at en1; cases en1
      dsimp only
      rw [en']; rfl
    have ed1 : Option.map _ (c.heads[n]?) = some d := ed
    have ⟨k, ek, ekd⟩ := Option.map_eq_some_iff.mp ed1
    subst ekd
    obtain ⟨ha, b0, b1, rfl, hh, r0, r1⟩ := hv.two
    have vb := r1.vbl
    subst vb
    walk_at "go"
    refine ⟨ha, _, rfl, hh, rfl, ?_⟩
    walk_at "go"
    cases hk : k.2 with
    | true =>
      walk_at "go"
      intro p2 n2; generalize g2 : upd H p2 _ = H2; obtain ⟨s2, d2⟩ := newT (K := K) (ds := [.str k.1]) n2 g2 (.cons r0 .nil)
      walk_at "go"
      intro p1 n1; generalize g1 : upd H2 p1 _ = H1; obtain ⟨s1, d1⟩ := newT (K := K) (ds := []) n1 g1 .nil
      walk_at "go"
      intro p3 n3; generalize g3 : upd H1 p3 _ = H3; obtain ⟨s3, d3⟩ := newT (K := K) (ds := [.tuple [.str k.1], .tuple []]) n3 g3 (.cons (d2.same s1) (.cons d1 .nil))
      exact q1 ([some k.1], []) (by dsimp only; rw [ek]; show (if k.2 = true then _ else _) = _; rw [hk]; rfl) _ _ (s2.trans (s1.trans s3)) d3
    | false =>
      walk_at "go"
      exact (fly1 (K := K) fun d Hf s2 e => q2 _ (by dsimp only; rw [ek]; show (if k.2 = true then _ else _) = _; rw [hk]; rfl) d Hf s2 e).2
theorem c_br_if (D : Def K mg "br_if" s_br_if ["scope", "instruction"]) (T : Tp w K mg cs) (c_Scope_label : CalM P w K mg base (L2.CX P w) (Cs.C_Scope cs) 3 "label" (sp_Scope_label K cs)) : Cal P w K mg base (L2.CX P w) 4 "br_if" (sp_br_if K cs) := by
  refine D.okX sc_br_if (fun vs H Q E h => ?_) (fun f cdv A outer s H vs Q E hr h => ?_)
  · obtain ⟨sc, lb, c, wk, iv, n, rfl, _⟩ := h; rfl
  · obtain ⟨sc, lb, c, wk, iv, n, rfl, hsc, lok, hi, q1, q2⟩ := h
    obtain ⟨ia, y0, y1, rfl, hia, t0, t1⟩ := hi.two
    have v1 := t1.vint
    subst v1
    obtain ⟨dx, sl, rs, sg, fi, ti, hs, hob, _⟩ := hsc.ob
    refine ⟨_, (pss_cons (ps_set (i := 2) sc_br_if.nd rfl (by first | exact Or.inl rfl | exact Or.inr rfl) (pe_mE c_Scope_label hr (by decide) (passes_call (takes_of rfl rfl rfl rfl) (fun _ _ _ _ h => h)) (pv 0) (pa_cons (pe_ix ix_tup (pv 1) pe_int (fun _ _ => rfl)) pa_nil)))
      (pss_one (ps_ret (pe_tup (pa_cons (pe_op op_catA (pv 2) (pe_tup (pa_cons pe_str pa_nil))) (pa_cons (pv 2) pa_nil)))))), ?_⟩
    walk_at "go"
    have s1 := Same.refl H
    refine ⟨sc, dx, _, rfl, hob, no_Scope_label, ?_⟩
    walk_at "go"
    refine ⟨sc, lb, c, wk.labels, n, rfl, hsc, fun d ed v hv => ?_, fun en => ?_⟩
    rotate_left
    · intro d Hf sf ef
      refine q2 _ ?_ d Hf sf ef
      have en1 : Option.map _ (labelOf wk n) = none := en
      have en' : labelOf wk n = none := by cases h : labelOf wk n with
        | none => rfl
        | some z => rw [h] at en1; cases en1
      dsimp only
      rw [en']; rfl
    have ed1 : Option.map _ (labelOf wk n) = some d := ed
    have ⟨ks, ek, ekd⟩ := Option.map_eq_some_iff.mp ed1
    subst ekd
    walk_at "go"
    intro p1 n1; generalize g1 : upd H p1 _ = H1; obtain ⟨s1, d1⟩ := newT (K := K) (ds := [.str "i32"]) n1 g1 (.cons (.str _) .nil)
    refine cat_DA (hv.same s1) d1 (by rw [List.length_map]; show ks.length + 1 ≤ 1000000; have := lok ks (label_mem ek); omega) fun u H2 s2 hu => ?_
    walk_at "go"
    intro p3 n3; generalize g3 : upd H2 p3 _ = H3; obtain ⟨s3, d3⟩ := newT (K := K) (ds := [.tuple (ks.map PyData.str ++ [PyData.str "i32"]), tupS ks]) n3 g3 (.cons hu (.cons ((hv.same s1).same s2) .nil))
    exact q1 (oSome ks ++ i32K, oSome ks) (by dsimp only; rw [ek]; rfl) _ _ (s1.trans (s2.trans s3)) (by
      unfold effD; rw [kdsD_S]
      have e1 : kdsD (oSome ks ++ i32K) = .tuple (ks.map PyData.str ++ [PyData.str "i32"]) := by unfold kdsD oSome; rw [List.map_append, List.map_map]; rfl
      show Dt K H3 _ (.tuple [kdsD (oSome ks ++ i32K), tupS ks])
      rw [e1]; exact d3)
theorem c_return_effect (D : Def K mg "return_effect" s_return_effect ["scope", "instruction"]) (T : Tp w K mg cs)  : Cal P w K mg base (L2.CX P w) 1 "return_effect" (sp_return_effect K cs) := by
  refine D.okX sc_return_effect (fun vs H Q E h => ?_) (fun f cdv A outer s H vs Q E hr h => ?_)
  · obtain ⟨sc, lb, c, ls, iv, rfl, _⟩ := h; rfl
  · obtain ⟨sc, lb, c, ls, iv, rfl, hsc, q⟩ := h
    obtain ⟨dx, sl, rs, sg, fi, ti, hs, hob, hsl, hrs, _⟩ := hsc.ob
    refine ⟨_, (pss_one (ps_ret (pe_tup (pa_cons (pe_fld (pv 0) rfl) (pa_cons (pe_tup pa_nil) pa_nil))))), ?_⟩
    walk_at "go"
    refine ⟨sc, _, dx, _, _, rfl, hob, T.cl_Scope, T.n_Scope_results, lk_Scope_results, ?_⟩
    walk_at "go"
    intro p1 n1; generalize g1 : upd H p1 _ = H1; obtain ⟨s1, d1⟩ := newT (K := K) (ds := []) n1 g1 .nil
    walk_at "go"
    have hr : Dt K H (.ref rs) (tupS c.results) := .tup hrs (DtA.strs _)
    intro p3 n3; generalize g3 : upd H1 p3 _ = H3; obtain ⟨s3, d3⟩ := newT (K := K) (ds := [tupS c.results, .tuple []]) n3 g3 (.cons (hr.same s1) (.cons d1 .nil))
    exact q _ _ (s1.trans s3) (by unfold effD; rw [kdsD_S]; exact d3)
theorem c_call_indirect (D : Def K mg "call_indirect" s_call_indirect ["scope", "instruction"]) (T : Tp w K mg cs) (c_Scope_need_table : CalM P w K mg base (L2.CX P w) (Cs.C_Scope cs) 3 "need_table" (sp_Scope_need_table K cs)) (c_Scope_signature : CalM P w K mg base (L2.CX P w) (Cs.C_Scope cs) 3 "signature" (sp_Scope_signature K cs)) : Cal P w K mg base (L2.CX P w) 4 "call_indirect" (sp_call_indirect K cs) := by
  refine D.okX sc_call_indirect (fun vs H Q E h => ?_) (fun f cdv A outer s H vs Q E hr h => ?_)
  · obtain ⟨sc, lb, c, ls, iv, n, m, rfl, _⟩ := h; rfl
  · obtain ⟨sc, lb, c, ls, iv, n, m, rfl, hsc, sok, hi, q1, q2⟩ := h
    obtain ⟨ia, y0, y1, y2, rfl, hia, t0, t1, t2⟩ := hi.three
    have v1 := t1.vint
    subst v1
    have v2 := t2.vint
    subst v2
    obtain ⟨dx, sl, rs, sg, fi, ti, hs, hob, _⟩ := hsc.ob
    refine ⟨_, (pss_cons (ps_expr (pe_mE c_Scope_need_table hr (by decide) (passes_call (takes_of rfl rfl rfl rfl) (fun _ _ _ _ h => h)) (pv 0) (pa_cons (pe_ix ix_tup (pv 1) pe_int (fun _ _ => rfl)) pa_nil)))
      (pss_cons (ps_asg (pe_mE c_Scope_signature hr (by decide) (passes_call (takes_of rfl rfl rfl rfl) (fun _ _ _ _ h => h)) (pv 0) (pa_cons (pe_ix ix_tup (pv 1) pe_int (fun _ _ => rfl)) pa_nil)) (pg_tup (by rfl) (pgs_cons (pg_name (i := 2) sc_call_indirect.nd rfl (by first | exact Or.inl rfl | exact Or.inr rfl)) (pgs_cons (pg_name (i := 3) sc_call_indirect.nd rfl (by first | exact Or.inl rfl | exact Or.inr rfl)) pgs_nil))))
      (pss_one (ps_ret (pe_tup (pa_cons (pe_op op_catA (pv 2) (pe_tup (pa_cons pe_str pa_nil))) (pa_cons (pv 3) pa_nil))))))), ?_⟩
    walk_at "go"
    refine ⟨sc, dx, _, rfl, hob, no_Scope_need_table, ?_⟩
    walk_at "go"
    refine ⟨sc, lb, c, ls, m, rfl, hsc, fun lt => ?_, fun le => ?_⟩
    rotate_left
    · exact q2 _ (if_pos le)
    walk_at "go"
    refine ⟨sc, dx, _, rfl, hob, no_Scope_signature, ?_⟩
    walk_at "go"
    refine ⟨sc, lb, c, ls, n, rfl, hsc, fun d ed v hv => ?_, fun en => ?_⟩
    rotate_left
    · refine q2 _ ?_
      have en1 : Option.map sgD (c.sigs[n]?) = none := en
      have en' : c.sigs[n]? = none := by cases h : c.sigs[n]? with
        | none => rfl
        | some z => rw [h] at en1; cases en1
      unfold fInd
      rw [if_neg (by omega), en']; rfl
    have ed1 : Option.map sgD (c.sigs[n]?) = some d := ed
    have ⟨z, ek, ekd⟩ := Option.map_eq_some_iff.mp ed1
    subst ekd
    obtain ⟨sa, u0, u1, rfl, hsq, r0, r1⟩ := hv.two
    walk_at "go"
    refine ⟨sa, _, rfl, hsq, rfl, ?_⟩
    walk_at "go"
    intro p1 n1; generalize g1 : upd H p1 _ = H1; obtain ⟨s1, d1⟩ := newT (K := K) (ds := [.str "i32"]) n1 g1 (.cons (.str _) .nil)
    refine cat_DA (r0.same s1) d1 (by rw [List.length_map]; show z.1.length + 1 ≤ 1000000; have := sok z (List.mem_of_getElem? ek); omega) fun u H2 s2 hu => ?_
    walk_at "go"
    intro p3 n3; generalize g3 : upd H2 p3 _ = H3; obtain ⟨s3, d3⟩ := newT (K := K) (ds := [.tuple (z.1.map PyData.str ++ [PyData.str "i32"]), tupS z.2]) n3 g3 (.cons hu (.cons ((r1.same s1).same s2) .nil))
    exact q1 (oSome z.1 ++ i32K, oSome z.2) (by unfold fInd; rw [if_neg (by omega), ek]; rfl) _ _ (s1.trans (s2.trans s3)) (by
      unfold effD; rw [kdsD_S]
      have e1 : kdsD (oSome z.1 ++ i32K) = .tuple (z.1.map PyData.str ++ [PyData.str "i32"]) := by unfold kdsD oSome; rw [List.map_append, List.map_map]; rfl
      show Dt K H3 _ (.tuple [kdsD (oSome z.1 ++ i32K), tupS z.2])
      rw [e1]; exact d3)
end

/-! ### loads and stores, and what an instruction takes and gives -/
abbrev Acc := Str × Nat × Str × Bool
def fAcc (c : Ctx) (r : Str × Nat × Str × Bool) (n : Nat) : Except Str Eff := if c.mems = 0 then .error "unknown memory" else if r.2.1 < n then .error "alignment too large" else if r.2.2.2 = true then .ok (i32K, [some r.2.2.1]) else .ok (i32K ++ [some r.2.2.1], [])
def accB : List (Str × V) := [("i32.load", .int 32), ("i64.load", .int 64), ("i32.load8_s", .int 8), ("i32.load8_u", .int 8), ("i32.load16_s", .int 16), ("i32.load16_u", .int 16), ("i64.load8_s", .int 8), ("i64.load8_u", .int 8), ("i64.load16_s", .int 16), ("i64.load16_u", .int 16), ("i64.load32_s", .int 32), ("i64.load32_u", .int 32),
  ("i32.store", .int 32), ("i64.store", .int 64), ("i32.store8", .int 8), ("i32.store16", .int 16), ("i64.store8", .int 8), ("i64.store16", .int 16), ("i64.store32", .int 32)]
theorem accB_v (cs : Cs) : v_ACCESS_BITS cs = accB := rfl
def isI (o : Option V) (i : Int) : Bool := match o with
  | some (.int j) => decide (j = i)
  | _ => false
theorem isI_eq {o : Option V} {i : Int} (h : isI o i = true) : o = some (.int i) := by
  cases o with
  | none => cases h
  | some v => cases v with
    | int j => rw [of_decide_eq_true h]
    | _ => cases h
def accOk (r : Str × Nat × Str × Bool) : Bool := (match valS accB r.1 with
  | some (.int b) => isI (valV (keyed zi_MOST_EXPONENTS) (.inl b)) r.2.1
  | _ => false) && decide (cutS r.1 none (some 3) = r.2.2.1) && decide (Txt.startswith (cutS r.1 (some 4) none) "load" = r.2.2.2) && decide (r.1.length ≤ 100)
theorem acc_all : ∀ r ∈ accT, accOk r = true := by decide +kernel
theorem acc_bits {r : Str × Nat × Str × Bool} (h : r ∈ accT) : (∃ b : Int, valS accB r.1 = some (.int b) ∧ valV (keyed zi_MOST_EXPONENTS) (.inl b) = some (.int (r.2.1 : Int))) ∧ cutS r.1 none (some 3) = r.2.2.1 ∧ Txt.startswith (cutS r.1 (some 4) none) "load" = r.2.2.2 ∧ r.1.length ≤ 100 := by
  have := acc_all r h
  unfold accOk at this
  rw [Bool.and_eq_true, Bool.and_eq_true, Bool.and_eq_true] at this
  obtain ⟨⟨⟨h1, h2⟩, h3⟩, h4⟩ := this
  refine ⟨?_, of_decide_eq_true h2, of_decide_eq_true h3, of_decide_eq_true h4⟩
  split at h1
  · rename_i b e; exact ⟨b, e, isI_eq h1⟩
  · cases h1
def sp_access_effect (K : PySem.W.Frag) (cs : Cs) : Sp := fun vs H Q E => ∃ (sc lb : Addr) (c : Ctx) (ls : List (List Str)) (iv : V) (r : Str × Nat × Str × Bool) (n m : Nat), vs = [.ref sc, iv] ∧ ScAt K cs H sc lb c ls ∧ r ∈ accT ∧ Dt K H iv (.tuple [.str r.1, .int (n : Int), .int (m : Int)]) ∧
  (∀ e, fAcc c r n = .ok e → ∀ v H', Same H H' → Dt K H' v (effD e) → Q v H') ∧ (∀ z, fAcc c r n = .error z → Flt cs H E z)
def SE (K : PySem.W.Frag) (cs : Cs) (f : Addr) (sp : Sp) : Prop := (f = cs.f_local_get ∧ sp = sp_local_get K cs) ∨ (f = cs.f_local_set ∧ sp = sp_local_set K cs) ∨ (f = cs.f_local_tee ∧ sp = sp_local_tee K cs) ∨ (f = cs.f_global_get ∧ sp = sp_global_get K cs) ∨ (f = cs.f_global_set ∧ sp = sp_global_set K cs) ∨
  (f = cs.f_br ∧ sp = sp_br K cs) ∨ (f = cs.f_br_if ∧ sp = sp_br_if K cs) ∨ (f = cs.f_return_effect ∧ sp = sp_return_effect K cs) ∨ (f = cs.f_call ∧ sp = sp_call K cs) ∨ (f = cs.f_call_indirect ∧ sp = sp_call_indirect K cs) ∨ (f = cs.f_throw ∧ sp = sp_throw K cs)
def numP (_K : PySem.W.Frag) (_cs : Cs) (_nm : Str) (_H : Hp) (_Q : VK) (_E : XK) : Prop := False
/-- the ways of an instruction through the tables -/
inductive EffP (K : PySem.W.Frag) (cs : Cs) (H : Hp) (sc lb : Addr) (c : Ctx) (ls : List (List Str)) (iv : V) (Q : VK) (E : XK) (nm : Str) : Prop
  | rule (f : Addr) (sp : Sp) (h : valS (v_RULES cs) nm = some (.ref f)) (hS : SE K cs f sp) (q : sp [.ref sc, iv] H Q E)
  | acc (h1 : valS (v_RULES cs) nm = none) (h2 : (valS accB nm).isSome = true) (q : sp_access_effect K cs [.ref sc, iv] H Q E)
  | mem (v : V) (h1 : valS (v_RULES cs) nm = none) (h2 : valS accB nm = none) (h3 : valS (v_MEMORY_EFFECTS cs) nm = some v) (q1 : ¬ c.mems = 0 → Q v H) (q2 : c.mems = 0 → Flt cs H E "unknown memory")
  | plain (v : V) (h1 : valS (v_RULES cs) nm = none) (h2 : valS accB nm = none) (h3 : valS (v_MEMORY_EFFECTS cs) nm = none) (h4 : valS (v_PLAIN_EFFECTS cs) nm = some v) (q : Q v H)
  | num (h1 : valS (v_RULES cs) nm = none) (h2 : valS accB nm = none) (h3 : valS (v_MEMORY_EFFECTS cs) nm = none) (h4 : valS (v_PLAIN_EFFECTS cs) nm = none) (q : numP K cs nm H Q E)
def sp_effect_of (K : PySem.W.Frag) (cs : Cs) : Sp := fun vs H Q E => ∃ (sc lb : Addr) (c : Ctx) (ls : List (List Str)) (iv : V) (nm : Str) (ds : List PyData), vs = [.ref sc, iv] ∧ ScAt K cs H sc lb c ls ∧ Dt K H iv (.tuple (.str nm :: ds)) ∧ EffP K cs H sc lb c ls iv Q E nm
section
variable {P : Program} {w : World} {K : PySem.W.Frag} {mg : Str → Option Value} {base : Heap} {cs : Cs}
theorem c_access_effect (D : Def K mg "access_effect" s_access_effect ["scope", "instruction"]) (T : Tp w K mg cs) (c_Scope_need_memory : CalM P w K mg base (L2.CX P w) (Cs.C_Scope cs) 3 "need_memory" (sp_Scope_need_memory K cs)) : Cal P w K mg base (L2.CX P w) 4 "access_effect" (sp_access_effect K cs) := by
  refine D.okX sc_access_effect (fun vs H Q E h => ?_) (fun f cdv A outer s H vs Q E hr h => ?_)
  · obtain ⟨sc, lb, c, ls, iv, r, n, m, rfl, _⟩ := h; rfl
  · obtain ⟨sc, lb, c, ls, iv, r, n, m, rfl, hsc, hr0, hi, q1, q2⟩ := h
    obtain ⟨ia, y0, y1, y2, rfl, hia, t0, t1, t2⟩ := hi.three
    have v0 := t0.vstr
    subst v0
    have v1 := t1.vint
    subst v1
    have v2 := t2.vint
    subst v2
    obtain ⟨⟨b, eb, em⟩, ek, el, ez⟩ := acc_bits hr0
    obtain ⟨dx, sl, rs, sg, fi, ti, hs, hob, _⟩ := hsc.ob
    refine ⟨_, (pss_cons (ps_asg (pv 1) (pg_tup (by rfl) (pgs_cons (pg_name (i := 2) sc_access_effect.nd rfl (by first | exact Or.inl rfl | exact Or.inr rfl)) (pgs_cons (pg_name (i := 3) sc_access_effect.nd rfl (by first | exact Or.inl rfl | exact Or.inr rfl)) (pgs_cons (pg_name (i := 4) sc_access_effect.nd rfl (by first | exact Or.inl rfl | exact Or.inr rfl)) pgs_nil)))))
      (pss_cons (ps_expr (pe_mE0 c_Scope_need_memory hr (by decide) (passes_call (takes_of rfl rfl rfl rfl) (fun _ _ _ _ h => h)) (pv 0)))
      (pss_cons (ps_if (pt_cmpR op_gt (pv 3) (pe_ix (ix_W T.d_MOST_EXPONENTS) (pe_glob (v := .ref cs.t_MOST_EXPONENTS) (by rfl) T.g_MOST_EXPONENTS rfl) (pe_ix (ix_T T.d_ACCESS_BITS) (pe_glob (v := .ref cs.t_ACCESS_BITS) (by rfl) T.g_ACCESS_BITS rfl) (pv 2) (fun _ _ => rfl)) (fun _ _ => rfl)) (by first | rfl | exact nomark _)) (pss_one (ps_raise rfl (takes_of rfl rfl rfl rfl) (pmk_oex T.e_CodeFault.T T.iC_CodeFault T.tI_CodeFault (in_CodeFault T) (hr.mono (by decide)) T.b_CodeFault .nil pass0 (by rfl) T.e_CodeFault.g (pa_cons pe_str pa_nil)))) pss_nil)
      (pss_cons (ps_set (i := 5) sc_access_effect.nd rfl (by first | exact Or.inl rfl | exact Or.inr rfl) (pe_slice sl_str (pv 2) po_none (po_some pe_int)))
      (pss_cons (ps_if (pt_val (pe_m1 PySem.F.slot_str_startswith PySem.F.type_str_startswith mt_startswith (pe_slice sl_str (pv 2) (po_some pe_int) po_none) pe_str)) (pss_one (ps_ret (pe_tup (pa_cons (pe_tup (pa_cons pe_str pa_nil)) (pa_cons (pe_tup (pa_cons (pv 5) pa_nil)) pa_nil))))) pss_nil)
      (pss_one (ps_ret (pe_tup (pa_cons (pe_tup (pa_cons pe_str (pa_cons (pv 5) pa_nil))) (pa_cons (pe_tup pa_nil) pa_nil)))))))))), ?_⟩
    walk_at "go"
    refine ⟨ia, _, rfl, hia, rfl, ?_⟩
    walk_at "go"
    refine ⟨sc, dx, _, rfl, hob, no_Scope_need_memory, ?_⟩
    walk_at "go"
    refine ⟨sc, lb, c, ls, rfl, hsc, fun nm => ?_, fun em => ?_⟩
    rotate_left
    · exact q2 _ (if_pos em)
    walk_at "go"
    refine ⟨r.1, _, rfl, rfl, eb, ?_⟩
    refine ⟨b, _, rfl, rfl, em, ?_⟩
    walk_at "go"
    refine ite2 (fun cc => ?_) (fun cc => ?_)
    · have c' : r.2.1 < n := by have := of_decide_eq_true cc; omega
      walk_at "go"
      exact (fly1 (K := K) fun d Hf s2 e => q2 _ (by unfold fAcc; rw [if_neg nm, if_pos c']) d Hf s2 e).2
    have c' : ¬ r.2.1 < n := by have := of_decide_eq_false (Bool.eq_false_iff.mpr cc); omega
    have ef : fAcc c r n = if r.2.2.2 = true then .ok (i32K, [some r.2.2.1]) else .ok (i32K ++ [some r.2.2.1], []) := by unfold fAcc; rw [if_neg nm, if_neg c']
    rw [ef] at q1
    walk_at "go"
    refine ⟨small64 (by omega), ?_⟩
    rw [ek]
    walk_at "go"
    refine ⟨small64 (by omega), ⟨_, rfl⟩, _, _, rfl, rfl, _, rfl, ?_⟩
    rw [el]
    cases hb : r.2.2.2 with
    | true =>
      rw [hb, if_pos rfl] at q1
      refine iteT ?_
      walk_at "go"
      intro p1 n1; generalize g1 : upd H p1 _ = H1; obtain ⟨s1, d1⟩ := newT (K := K) (ds := [.str "i32"]) n1 g1 (.cons (.str _) .nil)
      walk_at "go"
      intro p2 n2; generalize g2 : upd H1 p2 _ = H2; obtain ⟨s2, d2⟩ := newT (K := K) (ds := [.str r.2.2.1]) n2 g2 (.cons (.str _) .nil)
      walk_at "go"
      intro p3 n3; generalize g3 : upd H2 p3 _ = H3; obtain ⟨s3, d3⟩ := newT (K := K) (ds := [.tuple [.str "i32"], .tuple [.str r.2.2.1]]) n3 g3 (.cons (d1.same s2) (.cons d2 .nil))
      exact q1 _ rfl _ _ (s1.trans (s2.trans s3)) d3
    | false =>
      rw [hb, if_neg (by decide)] at q1
      refine iteF ?_
      walk_at "go"
      intro p2 n2; generalize g2 : upd H p2 _ = H2; obtain ⟨s2, d2⟩ := newT (K := K) (ds := [.str "i32", .str r.2.2.1]) n2 g2 (.cons (.str _) (.cons (.str _) .nil))
      walk_at "go"
      intro p1 n1; generalize g1 : upd H2 p1 _ = H1; obtain ⟨s1, d1⟩ := newT (K := K) (ds := []) n1 g1 .nil
      walk_at "go"
      intro p3 n3; generalize g3 : upd H1 p3 _ = H3; obtain ⟨s3, d3⟩ := newT (K := K) (ds := [.tuple [.str "i32", .str r.2.2.1], .tuple []]) n3 g3 (.cons (d2.same s1) (.cons d1 .nil))
      exact q1 _ rfl _ _ (s2.trans (s1.trans s3)) d3
theorem c_effect_of (D : Def K mg "effect_of" s_effect_of ["scope", "instruction"]) (T : Tp w K mg cs) (c_access_effect : Cal P w K mg base (L2.CX P w) 4 "access_effect" (sp_access_effect K cs)) (c_Scope_need_memory : CalM P w K mg base (L2.CX P w) (Cs.C_Scope cs) 3 "need_memory" (sp_Scope_need_memory K cs)) (c_local_get : Cal P w K mg base (L2.CX P w) 4 "local_get" (sp_local_get K cs)) (c_local_set : Cal P w K mg base (L2.CX P w) 4 "local_set" (sp_local_set K cs)) (c_local_tee : Cal P w K mg base (L2.CX P w) 4 "local_tee" (sp_local_tee K cs)) (c_global_get : Cal P w K mg base (L2.CX P w) 4 "global_get" (sp_global_get K cs)) (c_global_set : Cal P w K mg base (L2.CX P w) 4 "global_set" (sp_global_set K cs)) (c_br : Cal P w K mg base (L2.CX P w) 4 "br" (sp_br K cs)) (c_br_if : Cal P w K mg base (L2.CX P w) 4 "br_if" (sp_br_if K cs)) (c_return_effect : Cal P w K mg base (L2.CX P w) 1 "return_effect" (sp_return_effect K cs)) (c_call : Cal P w K mg base (L2.CX P w) 4 "call" (sp_call K cs)) (c_call_indirect : Cal P w K mg base (L2.CX P w) 4 "call_indirect" (sp_call_indirect K cs)) (c_throw : Cal P w K mg base (L2.CX P w) 4 "throw" (sp_throw K cs)) : Cal P w K mg base (L2.CX P w) 5 "effect_of" (sp_effect_of K cs) := by
  refine D.okX sc_effect_of (fun vs H Q E h => ?_) (fun f cdv A outer s H vs Q E hr h => ?_)
  · obtain ⟨sc, lb, c, ls, iv, nm, ds, rfl, _⟩ := h; rfl
  · obtain ⟨sc, lb, c, ls, iv, nm, ds, rfl, hsc, hi, hp⟩ := h
    have A1 : ∀ f sp, SE K cs f sp → ∃ y, Cal P w K mg base (L2.CX P w) 4 y sp ∧ mg y = some (.ref f) := by
      intro f sp hS
      rcases hS with ⟨rfl, rfl⟩ | ⟨rfl, rfl⟩ | ⟨rfl, rfl⟩ | ⟨rfl, rfl⟩ | ⟨rfl, rfl⟩ | ⟨rfl, rfl⟩ | ⟨rfl, rfl⟩ | ⟨rfl, rfl⟩ | ⟨rfl, rfl⟩ | ⟨rfl, rfl⟩ | ⟨rfl, rfl⟩
      · exact ⟨_, c_local_get.mono (by decide), T.h_local_get⟩
      · exact ⟨_, c_local_set.mono (by decide), T.h_local_set⟩
      · exact ⟨_, c_local_tee.mono (by decide), T.h_local_tee⟩
      · exact ⟨_, c_global_get.mono (by decide), T.h_global_get⟩
      · exact ⟨_, c_global_set.mono (by decide), T.h_global_set⟩
      · exact ⟨_, c_br.mono (by decide), T.h_br⟩
      · exact ⟨_, c_br_if.mono (by decide), T.h_br_if⟩
      · exact ⟨_, c_return_effect.mono (by decide), T.h_return_effect⟩
      · exact ⟨_, c_call.mono (by decide), T.h_call⟩
      · exact ⟨_, c_call_indirect.mono (by decide), T.h_call_indirect⟩
      · exact ⟨_, c_throw.mono (by decide), T.h_throw⟩
    obtain ⟨dx, sl, rs, sg, fi, ti, hs, hob, _⟩ := hsc.ob
    refine ⟨_, (pss_cons (ps_set (i := 2) sc_effect_of.nd rfl (by first | exact Or.inl rfl | exact Or.inr rfl) (pe_ix ix_tup (pv 1) pe_int (fun _ _ => rfl)))
      (pss_cons (ps_if (pt_cmpR (op_inT T.d_RULES) (pv 2) (pe_glob (v := .ref cs.t_RULES) (by rfl) T.g_RULES rfl) (by first | rfl | exact nomark _)) (pss_cons (ps_set (i := 3) sc_effect_of.nd rfl (by first | exact Or.inl rfl | exact Or.inr rfl) (pe_ix (ix_T T.d_RULES) (pe_glob (v := .ref cs.t_RULES) (by rfl) T.g_RULES rfl) (pv 2) (fun _ _ => rfl)))
      (pss_one (ps_ret (pe_callT (i := 3) (S := SE K cs) (C := L2.CX P w) (E := E) (k := 4) A1 hr (by decide) rfl (by first | exact Or.inl rfl | exact Or.inr rfl) (passes_call (takes_of rfl rfl rfl rfl) (fun _ _ _ _ h => h)) (pa_cons (pv 0) (pa_cons (pv 1) pa_nil)))))) pss_nil)
      (pss_cons (ps_if (pt_cmpR (op_inT T.d_ACCESS_BITS) (pv 2) (pe_glob (v := .ref cs.t_ACCESS_BITS) (by rfl) T.g_ACCESS_BITS rfl) (by first | rfl | exact nomark _)) (pss_one (ps_ret (pe_cE c_access_effect hr (by decide) (passes_call (takes_of rfl rfl rfl rfl) (fun _ _ _ _ h => h)) (by rfl) (pa_cons (pv 0) (pa_cons (pv 1) pa_nil))))) pss_nil)
      (pss_cons (ps_if (pt_cmpR (op_inT T.d_MEMORY_EFFECTS) (pv 2) (pe_glob (v := .ref cs.t_MEMORY_EFFECTS) (by rfl) T.g_MEMORY_EFFECTS rfl) (by first | rfl | exact nomark _)) (pss_cons (ps_expr (pe_mE0 c_Scope_need_memory hr (by decide) (passes_call (takes_of rfl rfl rfl rfl) (fun _ _ _ _ h => h)) (pv 0)))
      (pss_one (ps_ret (pe_ix (ix_T T.d_MEMORY_EFFECTS) (pe_glob (v := .ref cs.t_MEMORY_EFFECTS) (by rfl) T.g_MEMORY_EFFECTS rfl) (pv 2) (fun _ _ => rfl))))) pss_nil)
      (pss_cons (ps_if (pt_cmpR (op_inT T.d_PLAIN_EFFECTS) (pv 2) (pe_glob (v := .ref cs.t_PLAIN_EFFECTS) (by rfl) T.g_PLAIN_EFFECTS rfl) (by first | rfl | exact nomark _)) (pss_one (ps_ret (pe_ix (ix_T T.d_PLAIN_EFFECTS) (pe_glob (v := .ref cs.t_PLAIN_EFFECTS) (by rfl) T.g_PLAIN_EFFECTS rfl) (pv 2) (fun _ _ => rfl)))) pss_nil)
      (pss_one ps_never)))))), ?_⟩
    walk_at "go"
    refine ix_D (k := 0) hi rfl fun v hv => ?_
    have v0 := hv.vstr
    subst v0
    walk_at "go"
    cases hp with
    | rule f sp h hS q =>
      rw [h]
      walk_at "go"
      refine ⟨nm, _, rfl, rfl, h, ?_⟩
      walk_at "go"
      refine ⟨f, sp, rfl, hS, ?_⟩
      walk_at "go"
      exact q
    | acc h1 h2 q =>
      rw [h1]
      walk_at "go"
      rw [accB_v, h2]
      walk_at "go"
      exact q
    | mem v h1 h2 h3 q1 q2 =>
      rw [h1]
      walk_at "go"
      rw [accB_v, h2]
      walk_at "go"
      rw [h3]
      walk_at "go"
      refine ⟨sc, dx, _, rfl, hob, no_Scope_need_memory, ?_⟩
      walk_at "go"
      refine ⟨sc, lb, c, ls, rfl, hsc, fun nm => ?_, fun em => q2 em⟩
      walk_at "go"
      refine ⟨_, _, rfl, rfl, h3, ?_⟩
      exact q1 nm
    | plain v h1 h2 h3 h4 q =>
      rw [h1]
      walk_at "go"
      rw [accB_v, h2]
      walk_at "go"
      rw [h3]
      walk_at "go"
      rw [h4]
      walk_at "go"
      refine ⟨_, _, rfl, rfl, h4, ?_⟩
      exact q
    | num h1 h2 h3 h4 q =>
      rw [h1]
      walk_at "go"
      rw [accB_v, h2]
      walk_at "go"
      rw [h3]
      walk_at "go"
      rw [h4]
      walk_at "go"
      exact q
end

/-! ### a method called within a try -/
section
variable {X : Cx} {k j : Nat} {m : Str} {sp : Sp} {pos apos : Pos} {o e : Expr} {es : List Expr} {ta : TE} {t : TA} {CX : CXT} {E : L2.St → XK} {C : Addr}
def tMethT (C : Addr) (m : Str) (sp : Sp) (E : L2.St → XK) (ta : TE) (t : TA) : TE := fun σ H Q => ta σ H fun x H1 => ∃ a dx fs, x = .ref a ∧ H1 a = some (.ins C dx fs) ∧ fs.lookup m = none ∧ t σ H1 fun vs H2 => sp (x :: vs) H2 Q (E σ)
theorem pe_mS {pl : Sem Bool} (c : CalM X.prog X.w X.K X.mg X.base CX C k m sp) (hr : Room j X.A) (hk : k ≤ j) (hx : ∀ σ, PassesAt CX X σ (E σ)) (he : PE X o ta) (ha : PA X (e :: es) t)
    (hst : starEach (e :: es) X.env = (false, eval e X.env) :: starEach es X.env := by rfl) (hpl : (backTo pos (starEach es X.env)).any (·.1) = false := by rfl)
    (ht : eval (.Call (.Attribute o m apos) (e :: es) [] pos) X.env = (do
      let ov ← eval o X.env
      standAt apos.atName
      let (f, first) ← holding [ov] (getMethod ov m pl)
      callWith pos f first (backTo pos (starEach (e :: es) X.env)) (backToKw pos (keywordEach [] X.env))) := by rfl) :
    PE X (.Call (.Attribute o m apos) (e :: es) [] pos) (tMethT C m sp E ta t) := by
  obtain ⟨f, fd, ps, F, cl, mm, b⟩ := c.ex
  refine ⟨fun pins s σ H Q I h => ?_⟩
  refine PySem.W.methodCall_KW (pl := pl) (thn (he.run pins s σ H _ I h) fun u s1 ⟨x, H1, I1, rx, a, dx, fs, ex, ea, l, q⟩ => ?_) ht
  subst ex
  obtain rfl : u = Value.ref a := rx
  refine getmeth_ok I1 ea cl mm l ?_
  refine PySem.W.callWith_K (first := [.ref a]) (h₀ := X.base) I.ok.mod.kin mm.kp (thn (ha.run pos pins s1 σ H1 _ I1 q) fun us s2 ⟨vs, H2, I2, r, q2⟩ => ⟨I2.kIn, ?_⟩) hst hpl
  exact run_fnS (us := .ref a :: us) (vs := .ref a :: vs) F (hr.mono hk) b (hx σ) I2 (.cons rfl r) q2
end
section
variable {X : Cx} {a : Addr} {ps : List (Addr × Obj)} {o value : Expr} {f : Str} {pos pos' : Pos} {ta tv : TE}
theorem ps_fldS (ha : PE (X.suite a ps) o ta) (hv : PE (X.suite a ps) value tv) (hs : swapsWith value (some (.Attribute o f pos')) pos.line X.env = pure false) : PS (X.suite a ps) (.Assign [.Attribute o f pos'] value pos) (sFld X.K ta tv f) := ps_fld (X := X.suite a ps) ha hv hs
end

/-! ### instructions as data -/
def shpD : Shp → PyData
  | .none => .none
  | .kind k => .str k
  | .idx n => natD n
def oTagD : Option Nat → PyData
  | none => .none
  | some t => natD t
def catD (r : Option Nat × Nat) : PyData := .tuple [oTagD r.1, natD r.2]
mutual
def insD : Ins → PyData
  | .i0 nm => .tuple [.str nm]
  | .i1 nm n => .tuple [.str nm, .int n]
  | .i2 nm n m => .tuple [.str nm, .int n, .int m]
  | .brt ls d => .tuple [.str "br_table", .tuple (ls.map natD), natD d]
  | .blk nm sh b => .tuple [.str nm, shpD sh, .tuple (insDs b)]
  | .ifb sh b1 b2 => .tuple [.str "if", shpD sh, .tuple (insDs b1), .tuple (insDs b2)]
  | .tryb sh cs b => .tuple [.str "try_table", shpD sh, .tuple (cs.map catD), .tuple (insDs b)]
def insDs : List Ins → List PyData
  | [] => []
  | i :: r => insD i :: insDs r
end
theorem insDs_map : ∀ is : List Ins, insDs is = is.map insD
  | [] => by rw [insDs]; rfl
  | i :: r => by rw [insDs, insDs_map r]; rfl
theorem shp_v {K : PySem.W.Frag} {H : Hp} {v : V} : ∀ {sh : Shp}, Dt K H v (shpD sh) → v = shpV sh
  | .none, h => h.vnon
  | .kind _, h => h.vstr
  | .idx _, h => h.vint
/-! ### the walker's objects -/
structure Ads where
  wa : Addr
  sc : Addr
  ks : Addr
  hl : Addr
  ll : Addr
  lb : Addr
  sn : Addr
abbrev Ads.L (A : Ads) : List Addr := [A.hl, A.ll, A.lb, A.sn]
/-- some lists and the levels change, all else stands -/
def SL (L : List Addr) (H H' : Hp) : Prop := ∀ b o, b ∉ L → notLv o → H b = some o → H' b = some o
theorem SL.refl {L : List Addr} (H : Hp) : SL L H H := fun _ _ _ _ e => e
theorem SL.trans {L : List Addr} {H H1 H2 : Hp} (a : SL L H H1) (b : SL L H1 H2) : SL L H H2 := fun c o n q e => b c o n q (a c o n q e)
theorem Same.sl {L : List Addr} {H H' : Hp} (s : Same H H') : SL L H H' := fun b o _ _ e => s b o e
theorem SL.ti {K : PySem.W.Frag} {L : List Addr} {H H' : Hp} (h : SL L H H') (hL : ∀ a ∈ L, ∃ xs, H a = some (.lst xs)) : Ti K H H' := fun a xs q => by
  rcases q with (q | ⟨b, q⟩) | q
  · exact .inl (.inl (h _ _ (fun z => by obtain ⟨ys, e⟩ := hL a z; rw [e] at q; cases q) (fun _ _ _ _ _ z => nomatch z) q))
  · exact .inl (.inr ⟨b, h _ _ (fun z => by obtain ⟨ys, e⟩ := hL a z; rw [e] at q; cases q) (fun _ _ _ _ _ z => nomatch z) q⟩)
  · exact .inr q
def seenD (r : List Kd × Bool) : PyData := .tuple [.tuple (r.1.map kdD), .bool r.2]
def CtxOk (c : Ctx) : Prop := (∀ s ∈ c.sigs, s.1.length ≤ 1000 ∧ s.2.length ≤ 1000) ∧ c.results.length ≤ 1000
def LstAt (K : PySem.W.Frag) (H : Hp) (a : Addr) (ds : List PyData) : Prop := ∃ xs, H a = some (.lst xs) ∧ DtA K H xs ds
structure WkAt (K : PySem.W.Frag) (cs : Cs) (H : Hp) (A : Ads) (c : Ctx) (w : Wk) : Prop where
  ob : ∃ dx, H A.wa = some (.ins cs.C_Walker dx (fs_Walker (.ref A.sc) (.ref A.ks) (.ref A.sn) .non))
  sc : ∀ H', SL A.L H H' → ScFix K cs H' A.sc A.lb c
  ks : ∃ las, KsAt cs H A.ks A.hl A.ll las w.held w.levels
  lb : LstAt K H A.lb (w.labels.map tupS)
  sn : LstAt K H A.sn (w.seen.map seenD)
  nd : A.L.Nodup
  b1 : w.held.length ≤ 5000
  b2 : w.levels.length ≤ 1000
  b3 : w.seen.length ≤ 5000
  b4 : w.labels.length ≤ 1000
  b5 : ∀ ks ∈ w.labels, ks.length ≤ 1000
  cx : CtxOk c
section
variable {K : PySem.W.Frag} {cs : Cs} {H H' : Hp} {A : Ads} {c : Ctx} {w : Wk} {Q : VK} {E : XK}
theorem WkAt.ls (h : WkAt K cs H A c w) : ∀ a ∈ A.L, ∃ xs, H a = some (.lst xs) := by
  intro a ha
  obtain ⟨las, hk⟩ := h.ks
  rcases List.mem_cons.mp ha with rfl | ha
  · exact ⟨_, hk.he⟩
  rcases List.mem_cons.mp ha with rfl | ha
  · exact ⟨_, hk.le⟩
  rcases List.mem_cons.mp ha with rfl | ha
  · obtain ⟨xs, e, _⟩ := h.lb; exact ⟨_, e⟩
  rcases List.mem_cons.mp ha with rfl | ha
  · obtain ⟨xs, e, _⟩ := h.sn; exact ⟨_, e⟩
  · cases ha
theorem WkAt.ti (h : WkAt K cs H A c w) (s : SL A.L H H') : Ti K H H' := s.ti h.ls
theorem WkAt.scAt (h : WkAt K cs H A c w) : ScAt K cs H A.sc A.lb c w.labels := ⟨h.sc H (SL.refl H), h.lb⟩
theorem WkAt.nin (h : WkAt K cs H A c w) {a : Addr} {o : HO} (e : H a = some o) (n : ∀ xs, o ≠ .lst xs) : a ∉ A.L := fun z => by
  obtain ⟨xs, e2⟩ := h.ls a z
  rw [e2] at e; cases e; exact n _ rfl
theorem WkAt.step (h : WkAt K cs H A c w) (s : SL A.L H H') {w' : Wk} (ks : ∃ las, KsAt cs H' A.ks A.hl A.ll las w'.held w'.levels) (lb : LstAt K H' A.lb (w'.labels.map tupS)) (sn : LstAt K H' A.sn (w'.seen.map seenD))
    (b1 : w'.held.length ≤ 5000) (b2 : w'.levels.length ≤ 1000) (b3 : w'.seen.length ≤ 5000) (b4 : w'.labels.length ≤ 1000) (b5 : ∀ ks ∈ w'.labels, ks.length ≤ 1000) : WkAt K cs H' A c w' := by
  obtain ⟨dx, e⟩ := h.ob
  exact ⟨⟨dx, s _ _ (h.nin e fun _ z => nomatch z) nl_walker e⟩, fun H2 s2 => h.sc H2 (s.trans s2), ks, lb, sn, h.nd, b1, b2, b3, b4, b5, h.cx⟩
theorem LstAt.same {a : Addr} {ds : List PyData} (s : Same H H') (h : LstAt K H a ds) : LstAt K H' a ds := by
  obtain ⟨xs, e, d⟩ := h; exact ⟨xs, s _ _ e, d.same s⟩
theorem WkAt.same (h : WkAt K cs H A c w) (s : Same H H') : WkAt K cs H' A c w := by
  obtain ⟨las, hk⟩ := h.ks
  exact h.step (Same.sl s) ⟨las, hk.same s⟩ (h.lb.same s) (h.sn.same s) h.b1 h.b2 h.b3 h.b4 h.b5
/-- a step of the stack of kinds -/
theorem KsAt.lva {ks hl ll : Addr} {las : List Addr} {hd : List Kd} {lv : List Lv} (h : KsAt cs H ks hl ll las hd lv) {a : Addr} (ha : a ∈ las) : ∃ dx l, H a = some (lvO cs dx l) := by
  obtain ⟨i, hi, e⟩ := List.mem_iff_getElem.mp ha
  have : i < lv.length := by rw [← h.len]; exact hi
  obtain ⟨b, dx, e1, e2⟩ := h.at' i lv[i] (List.getElem?_eq_getElem this)
  rw [List.getElem?_eq_getElem hi, e] at e1
  cases e1
  exact ⟨dx, _, e2⟩
theorem WkAt.stk (h : WkAt K cs H A c w) {las las' : List Addr} (hk : KsAt cs H A.ks A.hl A.ll las w.held w.levels) {ps : List Addr} (s : SameBut ps H H') (hp : ∀ a ∈ ps, a ∈ A.hl :: A.ll :: las) {hd : List Kd} {lv : List Lv}
    (hk' : KsAt cs H' A.ks A.hl A.ll las' hd lv) (b1 : hd.length ≤ 5000) (b2 : lv.length ≤ 1000) : SL A.L H H' ∧ WkAt K cs H' A c { w with held := hd, levels := lv } := by
  have key : ∀ b o, b ≠ A.hl → b ≠ A.ll → notLv o → H b = some o → H' b = some o := fun b o n1 n2 nl e => s b o (fun z => by
    rcases List.mem_cons.mp (hp b z) with r | r
    · exact n1 r
    rcases List.mem_cons.mp r with r | r
    · exact n2 r
    obtain ⟨dx, l, e2⟩ := hk.lva r
    rw [e] at e2; cases e2
    exact nl _ _ _ _ _ rfl) e
  have sl : SL A.L H H' := fun b o n nl e => key b o (fun z => n (by rw [z]; exact List.mem_cons_self)) (fun z => n (by rw [z]; exact List.mem_cons_of_mem _ List.mem_cons_self)) nl e
  have nd := h.nd
  have ti := h.ti sl
  simp only [Ads.L, List.nodup_cons, List.mem_cons, List.not_mem_nil, or_false, not_or] at nd
  refine ⟨sl, h.step sl ⟨las', hk'⟩ ?_ ?_ b1 b2 h.b3 h.b4 h.b5⟩
  · obtain ⟨xs, e, d⟩ := h.lb
    exact ⟨xs, key _ _ (fun z => nd.1.2.1 z.symm) (fun z => nd.2.1.1 z.symm) nl_lst e, d.ti ti⟩
  · obtain ⟨xs, e, d⟩ := h.sn
    exact ⟨xs, key _ _ (fun z => nd.1.2.2 z.symm) (fun z => nd.2.1.2 z.symm) nl_lst e, d.ti ti⟩
theorem KsAt.oth {ks hl ll a : Addr} {las : List Addr} {hd : List Kd} {lv : List Lv} {xs ys : List V} (h : KsAt cs H ks hl ll las hd lv) (e : H a = some (.lst xs)) (n1 : a ≠ hl) (n2 : a ≠ ll) : KsAt cs (upd H a (.lst ys)) ks hl ll las hd lv := by
  obtain ⟨⟨dk, z1⟩, z2, z3, z4, z5, z6, z7⟩ := h
  have key : ∀ b o, b ≠ a → H b = some o → upd H a (.lst ys) b = some o := fun b o n q => (upd_ne n).trans q
  refine ⟨⟨dk, key _ _ (fun z => by subst z; rw [z1] at e; cases e) z1⟩, key _ _ n1.symm z2, key _ _ n2.symm z3, z4, z5, fun i l q => ?_, z7⟩
  obtain ⟨b, da, a1, a2⟩ := z6 i l q
  exact ⟨b, da, a1, key _ _ (fun z => by subst z; rw [a2] at e; cases e) a2⟩
theorem WkAt.lab (h : WkAt K cs H A c w) {xs ys : List V} (e : H A.lb = some (.lst xs)) {ls : List (List Str)} (d : DtA K H ys (ls.map tupS)) (b4 : ls.length ≤ 1000) (b5 : ∀ ks ∈ ls, ks.length ≤ 1000) : SL A.L H (upd H A.lb (.lst ys)) ∧ WkAt K cs (upd H A.lb (.lst ys)) A c { w with labels := ls } := by
  have nd := h.nd
  simp only [Ads.L, List.nodup_cons, List.mem_cons, List.not_mem_nil, or_false, not_or] at nd
  have sl : SL A.L H (upd H A.lb (.lst ys)) := fun b o n _ q => (upd_ne (fun z => n (by rw [z]; simp))).trans q
  obtain ⟨las, hk⟩ := h.ks
  obtain ⟨zs, ez, dz⟩ := h.sn
  have t : Ti K H (upd H A.lb (.lst ys)) := Ti.putL e
  refine ⟨sl, h.step sl ⟨las, hk.oth e (fun z => nd.1.2.1 z.symm) (fun z => nd.2.1.1 z.symm)⟩ ⟨ys, upd_same, d.ti t⟩ ⟨zs, (upd_ne (fun z => nd.2.2.1 z.symm)).trans ez, dz.ti t⟩ h.b1 h.b2 h.b3 b4 b5⟩
/-! ### what a part of the walk owes -/
def FltW (K : PySem.W.Frag) (cs : Cs) (A : Ads) (H : Hp) (E : XK) (w : Wk) (r : Str) : Prop := ∀ d Hf, SL A.L H Hf → LstAt K Hf A.sn (w.seen.map seenD) → Hf d = some (.xd [("reason", .str r)]) → E (.ref cs.C_CodeFault) (some d) Hf
structure WOut (K : PySem.W.Frag) (cs : Cs) (A : Ads) (c : Ctx) (H : Hp) (Q : VK) (E : XK) (out : Out) : Prop where
  ok : ∀ w' H', out = (w', none) → SL A.L H H' → WkAt K cs H' A c w' → Q .non H'
  er : ∀ w' r, out = (w', some r) → FltW K cs A H E w' r
  nq : out.2 ≠ some qq
theorem WOut.seq {x : Out} {f : Wk → Out} {Q1 : VK} (h : WOut K cs A c H Q E (bnd x f)) (k : ∀ w1 H1, x = (w1, none) → SL A.L H H1 → WkAt K cs H1 A c w1 → WOut K cs A c H1 Q E (f w1) → Q1 .non H1) : WOut K cs A c H Q1 E x := by
  refine ⟨fun w1 H1 e s hw => k w1 H1 e s hw ?_, fun w1 r e => h.er w1 r (by rw [e]; rfl), fun e => h.nq ?_⟩
  · rw [e] at h
    exact ⟨fun w' H' e2 s2 hw2 => h.ok w' H' e2 (s.trans s2) hw2, fun w' r e2 d Hf s2 l ed => h.er w' r e2 d Hf (s.trans s2) l ed, h.nq⟩
  · obtain ⟨w1, o⟩ := x
    have e : o = some qq := e
    subst e
    rfl
theorem WOut.mono {out : Out} (h : WOut K cs A c H Q E out) (s : SL A.L H H') : WOut K cs A c H' Q E out := ⟨fun w' H2 e s2 hw => h.ok w' H2 e (s.trans s2) hw, fun w' r e d Hf s2 l ed => h.er w' r e d Hf (s.trans s2) l ed, h.nq⟩
theorem WOut.flt {out : Out} {w' : Wk} {r : Str} (h : WOut K cs A c H Q E out) (hw : WkAt K cs H A c w) (e : out = (w', some r)) (es : w'.seen = w.seen) : Flt cs H E r := fun d Hf s ed => h.er w' r e d Hf (Same.sl s) (by rw [es]; exact hw.sn.same s) ed
theorem WOut.end {out : Out} (h : WOut K cs A c H Q E out) (hw : WkAt K cs H A c w) (e : out = (w, none)) : Q .non H := h.ok w H e (SL.refl H) hw
/-! ### the stack's methods -/
theorem okLv_of {x : Out} {ks : List Kd} (e : x = needO w ks) (n : x.2 ≠ some qq) : okLv w = true := by
  subst e
  unfold needO at n
  by_cases h : okLv w = true
  · exact h
  · rw [if_neg h] at n; exact absurd rfl n
theorem bnd_nq {x : Out} {f : Wk → Out} (h : (bnd x f).2 ≠ some qq) : x.2 ≠ some qq := fun e => by
  obtain ⟨a, b⟩ := x
  have e : b = some qq := e
  subst e
  exact h rfl
theorem needO_same {w1 : Wk} {ks : List Kd} (h : needO w ks = (w1, none)) : w = w1 := by
  unfold needO at h
  split at h
  · split at h
    · exact (Prod.mk.inj h).1
    · cases h
  · cases h
theorem need_W {t : Addr} {ks : List Kd} (hw : WkAt K cs H A c w) (ht : Kds K H t ks) (hl : ks.length ≤ 5000) (hO : WOut K cs A c H Q E (needO w ks)) : sp_KindStack_need K cs [.ref A.ks, .ref t] H Q E := by
  obtain ⟨las, hk⟩ := hw.ks
  have o := okLv_of rfl hO.nq
  have b1 := hw.b1
  refine ⟨A.ks, A.hl, A.ll, t, las, w, ks, rfl, hk, ht, o, by omega, by omega, fun hn H' s => ?_, fun hn => ?_⟩
  · exact hO.ok w H' (by unfold needO; rw [if_pos o, if_pos hn]; rfl) (Same.sl s) (hw.same s)
  · exact hO.flt hw (w' := w) (by unfold needO; rw [if_pos o, hn]; rfl) rfl
theorem take_W {t : Addr} {ks : List Kd} (hw : WkAt K cs H A c w) (ht : Kds K H t ks) (hl : ks.length ≤ 5000) (hO : WOut K cs A c H Q E (takeO w ks)) : sp_KindStack_take K cs [.ref A.ks, .ref t] H Q E := by
  obtain ⟨las, hk⟩ := hw.ks
  have o : okLv w = true := okLv_of rfl (bnd_nq hO.nq)
  have b1 := hw.b1
  refine ⟨A.ks, A.hl, A.ll, t, las, w, ks, rfl, hk, ht, o, by omega, by omega, fun hn H' hk' s => ?_, fun hn => ?_⟩
  · obtain ⟨sl, hw'⟩ := hw.stk hk s (fun a ha => by rw [List.mem_singleton.mp ha]; exact List.mem_cons_self) hk' (by unfold takes; rw [List.length_take]; omega) hw.b2
    exact hO.ok (takes w ks) H' (by unfold takeO needO; rw [if_pos o, if_pos hn]; rfl) sl hw'
  · exact hO.flt hw (w' := w) (by unfold takeO needO; rw [if_pos o, hn]; rfl) rfl
theorem put_W {t : Addr} {ks : List Kd} (hw : WkAt K cs H A c w) (ht : Kds K H t ks) (hO : WOut K cs A c H Q E (putO w ks)) : sp_KindStack_put K cs [.ref A.ks, .ref t] H Q E0 := by
  obtain ⟨las, hk⟩ := hw.ks
  have b : w.held.length + ks.length ≤ 5000 := by
    by_cases h : w.held.length + ks.length ≤ 5000
    · exact h
    · exact absurd (by unfold putO; rw [if_neg h]; rfl) hO.nq
  refine ⟨A.ks, A.hl, A.ll, t, las, w.held, ks, w.levels, rfl, hk, ht, by omega, fun H' hk' s => ?_⟩
  obtain ⟨sl, hw'⟩ := hw.stk hk s (fun a ha => by rw [List.mem_singleton.mp ha]; exact List.mem_cons_self) hk' (by rw [List.length_append]; exact b) hw.b2
  exact hO.ok _ H' (by unfold putO; rw [if_pos b]; rfl) sl hw'
theorem loosen_W (hw : WkAt K cs H A c w) (hO : WOut K cs A c H Q E (if okLv w = true then ok1 (loosen w) else er1 w qq)) : sp_KindStack_loosen K cs [.ref A.ks] H Q E0 := by
  obtain ⟨las, hk⟩ := hw.ks
  have o : okLv w = true := by
    by_cases h : okLv w = true
    · exact h
    · exact absurd (by rw [if_neg h]; rfl) hO.nq
  have b1 := hw.b1
  have b2 := hw.b2
  have ne : 0 < w.levels.length := by
    cases e : w.levels with
    | nil => unfold okLv at o; rw [e] at o; cases o
    | cons a r => exact Nat.succ_pos _
  refine ⟨A.ks, A.hl, A.ll, las, w, rfl, hk, o, fun H' hk' s => ?_⟩
  obtain ⟨sl, hw'⟩ := hw.stk hk s (fun a ha => by
    rcases List.mem_cons.mp ha with r | r
    · rw [r]; exact List.mem_cons_self
    · exact List.mem_cons_of_mem _ (List.mem_cons_of_mem _ r)) hk' (by unfold loosen; rw [List.length_take]; omega) (by unfold loosen; rw [List.length_append, List.length_dropLast]; show _ - 1 + 1 ≤ 1000; omega)
  exact hO.ok _ H' (by rw [if_pos o]; rfl) sl hw'
theorem enter_W {t : Addr} {ps : List Str} (hw : WkAt K cs H A c w) (ht : Kds K H t (oSome ps)) (hO : WOut K cs A c H Q E (enterO w ps)) : sp_KindStack_enter K cs [.ref A.ks, .ref t] H Q E0 := by
  obtain ⟨las, hk⟩ := hw.ks
  have b : w.levels.length < 1000 := by
    by_cases h : w.levels.length < 1000
    · exact h
    · exact absurd (by unfold enterO; rw [if_neg h]; rfl) hO.nq
  have e0 : enterO w ps = putO { w with levels := w.levels ++ [⟨w.held.length, isDead w.levels, false⟩] } (oSome ps) := by unfold enterO; rw [if_pos b]
  rw [e0] at hO
  have b5 : w.held.length + (oSome ps).length ≤ 5000 := by
    by_cases h : w.held.length + (oSome ps).length ≤ 5000
    · exact h
    · exact absurd (by unfold putO; rw [if_neg h]; rfl) hO.nq
  refine ⟨A.ks, A.hl, A.ll, t, las, w.held, oSome ps, w.levels, rfl, hk, ht, by omega, by omega, fun a H' ha hk' s => ?_⟩
  obtain ⟨sl, hw'⟩ := hw.stk hk s (fun a ha => by
    rcases List.mem_cons.mp ha with r | r
    · rw [r]; exact List.mem_cons_self
    · rw [List.mem_singleton.mp r]; exact List.mem_cons_of_mem _ List.mem_cons_self) hk' (by rw [List.length_append]; exact b5) (by rw [List.length_append]; show _ + 1 ≤ 1000; omega)
  exact hO.ok _ H' (by unfold putO; rw [if_pos b5]; rfl) sl hw'
theorem leave_W {t : Addr} {rs : List Str} (hw : WkAt K cs H A c w) (ht : Kds K H t (oSome rs)) (hl : rs.length ≤ 1000) (hO : WOut K cs A c H Q E (leaveO w rs)) : sp_KindStack_leave K cs [.ref A.ks, .ref t] H Q E := by
  obtain ⟨las, hk⟩ := hw.ks
  have o : okLv w = true := okLv_of rfl (bnd_nq (bnd_nq hO.nq))
  have b1 := hw.b1
  have b2 := hw.b2
  have lr : (oSome rs).length = rs.length := List.length_map ..
  have lt : (takes w (oSome rs)).held.length ≤ 5000 := by unfold takes; rw [List.length_take]; omega
  have tl : topLv (takes w (oSome rs)) = topLv w := rfl
  refine ⟨A.ks, A.hl, A.ll, t, las, w, oSome rs, rfl, hk, ht, o, by omega, by omega, fun hn hf H' hk' s => ?_, fun hn => ?_⟩
  · obtain ⟨sl, hw'⟩ := hw.stk hk s (fun a ha => by
      rcases List.mem_cons.mp ha with r | r
      · rw [r]; exact List.mem_cons_self
      · rw [List.mem_singleton.mp r]; exact List.mem_cons_of_mem _ List.mem_cons_self) hk' lt (by rw [List.length_dropLast]; omega)
    refine hO.ok _ H' ?_ sl hw'
    unfold leaveO takeO needO
    rw [if_pos o, if_pos hn]
    show (if (topLv w).floor < _ then _ else _) = _
    rw [if_neg hf]
    rfl
  · have key : ∀ w', leaveO w rs = (w', some kmm) → w'.seen = w.seen → FltB cs H E kmm [A.hl] := fun w' e es d Hf s ed => by
      have nd := hw.nd
      simp only [Ads.L, List.nodup_cons, List.mem_cons, List.not_mem_nil, or_false, not_or] at nd
      have sl : SL A.L H Hf := fun b x n _ q => s b x (fun z => n (by rw [List.mem_singleton.mp z]; exact List.mem_cons_self)) q
      refine hO.er w' kmm e d Hf sl ?_ ed
      obtain ⟨xs, e, dd⟩ := hw.sn
      exact ⟨xs, s _ _ (fun z => nd.1.2.2 (List.mem_singleton.mp z).symm) e, by rw [es]; exact dd.ti (hw.ti sl)⟩
    by_cases hn1 : needs w (oSome rs) = true
    · have hf := hn.resolve_left (by rw [hn1]; decide)
      refine key (takes w (oSome rs)) ?_ rfl
      unfold leaveO takeO needO
      rw [if_pos o, if_pos hn1]
      show (if (topLv w).floor < _ then _ else _) = _
      rw [if_pos hf]
      rfl
    · refine key w ?_ rfl
      unfold leaveO takeO needO
      rw [if_pos o, if_neg hn1]
      rfl
end
section
variable {K : PySem.W.Frag} {cs : Cs} {H H' : Hp} {A : Ads} {c : Ctx} {w : Wk} {Q : VK} {E : XK}
theorem anyO_ok {f : Wk → Kd → Out} {w1 : Wk} {k : Kd} (e : takeAny w = (w1, .ok k)) : anyO w f = f w1 k := by unfold anyO; rw [e]
theorem take_any_W {Q1 : VK} {f : Wk → Kd → Out} (hw : WkAt K cs H A c w) (hO : WOut K cs A c H Q E (anyO w f)) (k : ∀ w1 u H1, SL A.L H H1 → WkAt K cs H1 A c w1 → WOut K cs A c H1 Q E (f w1 u) → Q1 (kdV u) H1) : sp_KindStack_take_any K cs [.ref A.ks] H Q1 E := by
  obtain ⟨las, hk⟩ := hw.ks
  have o : okLv w = true := by
    by_cases h : okLv w = true
    · exact h
    · refine absurd ?_ hO.nq
      unfold anyO takeAny needO
      rw [if_neg h]; rfl
  have b1 := hw.b1
  have er : needs w [none] = false → anyO w f = (w, some kmm) := fun hn => by
    unfold anyO takeAny needO
    rw [if_pos o, hn]; rfl
  have e1 : needs w [none] = true → w.held.length = (topLv w).floor → anyO w f = f w none := fun hn hf => by
    refine anyO_ok ?_
    unfold takeAny needO
    rw [if_pos o, if_pos hn]
    exact if_pos hf
  have e2 : needs w [none] = true → ¬ w.held.length = (topLv w).floor → anyO w f = f { w with held := w.held.dropLast } (w.held.getLast?.getD none) := fun hn hf => by
    refine anyO_ok ?_
    unfold takeAny needO
    rw [if_pos o, if_pos hn]
    exact if_neg hf
  have hp : ∀ a ∈ [A.hl], a ∈ A.hl :: A.ll :: las := fun a ha => by rw [List.mem_singleton.mp ha]; exact List.mem_cons_self
  refine ⟨A.ks, A.hl, A.ll, las, w, rfl, hk, o, by omega, fun hn hf H' hk' s => ?_, fun hn hf H' hk' s => ?_, fun hn => hO.flt hw (er hn) rfl⟩
  · obtain ⟨sl, hw'⟩ := hw.stk hk s hp hk' b1 hw.b2
    rw [e1 hn hf] at hO
    exact k w none H' sl hw' (hO.mono sl)
  · obtain ⟨sl, hw'⟩ := hw.stk hk s hp hk' (by rw [List.length_dropLast]; omega) hw.b2
    rw [e2 hn hf] at hO
    exact k _ _ H' sl hw' (hO.mono sl)
theorem tC_go {v : V} {σ : L2.St} {F : VK} (h : F v H) : tC v σ H F := h
theorem nil_go {σ : L2.St} {F : List V → Hp → Prop} (h : F [] H) : tNil σ H F := h
theorem Kds.ref {t : Addr} {ks : List Kd} (h : Dt K H (.ref t) (.tuple (ks.map kdD))) : Kds K H t ks := by
  obtain ⟨t', e, k⟩ := Kds.of h
  cases e
  exact k
theorem Kds.refS {t : Addr} {ks : List Str} (h : Dt K H (.ref t) (tupS ks)) : Kds K H t (oSome ks) := Kds.ref (by rw [← kds_tupS]; exact h)
theorem WkAt.stO (h : WkAt K cs H A c w) : ∃ dx, H A.ks = some (.ins cs.C_KindStack dx (fs_KindStack (.ref A.hl) (.ref A.ll))) := by obtain ⟨las, hk⟩ := h.ks; exact hk.ob
theorem WkAt.scO (h : WkAt K cs H A c w) : ∃ dx fs, H A.sc = some (.ins cs.C_Scope dx fs) ∧ (∃ x0 x1 x3 x4 x5 x6 x7 x8, fs = fs_Scope x0 x1 (.ref A.lb) x3 x4 x5 x6 x7 x8) := by
  obtain ⟨dx, sl, rs, sg, fi, ti, hs, hob, _⟩ := h.scAt.ob
  exact ⟨dx, _, hob, _, _, _, _, _, _, _, _, rfl⟩
theorem WkAt.rs (h : WkAt K cs H A c w) : ∃ dx x0 rs x3 x4 x5 x6 x7 x8, H A.sc = some (.ins cs.C_Scope dx (fs_Scope x0 (.ref rs) (.ref A.lb) x3 x4 x5 x6 x7 x8)) ∧ Dt K H (.ref rs) (tupS c.results) := by
  obtain ⟨dx, sl, rs, sg, fi, ti, hs, hob, h1, h2, _⟩ := h.scAt.ob
  exact ⟨dx, _, rs, _, _, _, _, _, _, hob, .tup h2 (DtA.strs _)⟩
end
theorem labelsOf_len {w : Wk} : ∀ {ns : List Nat} {rows : List (List Str)}, labelsOf w ns = some rows → rows.length = ns.length
  | [], rows, h => by cases h; rfl
  | n :: r, rows, h => by
    rw [labelsOf] at h
    obtain ⟨ks, h1, h2⟩ := Option.bind_eq_some_iff.mp h
    obtain ⟨q, h3, h4⟩ := Option.map_eq_some_iff.mp h2
    rw [← h4, List.length_cons, List.length_cons, labelsOf_len h3]
theorem labelsOf_get {w : Wk} : ∀ {ns : List Nat} {rows : List (List Str)} {i n : Nat}, labelsOf w ns = some rows → ns[i]? = some n → ∃ ks, rows[i]? = some ks ∧ labelOf w n = some ks
  | [], rows, i, n, _, e => by cases e
  | m :: r, rows, i, n, h, e => by
    rw [labelsOf] at h
    obtain ⟨ks, h1, h2⟩ := Option.bind_eq_some_iff.mp h
    obtain ⟨q, h3, h4⟩ := Option.map_eq_some_iff.mp h2
    subst h4
    cases i with
    | zero => cases e; exact ⟨ks, rfl, h1⟩
    | succ i => exact labelsOf_get (ns := r) (i := i) h3 e
theorem labelsOf_mem {w : Wk} {ns : List Nat} {rows : List (List Str)} (h : labelsOf w ns = some rows) {ks : List Str} (hk : ks ∈ rows) : ks ∈ w.labels := by
  obtain ⟨i, hi, e⟩ := List.mem_iff_getElem.mp hk
  have hi' : i < ns.length := by rw [← labelsOf_len h]; exact hi
  obtain ⟨ks', e1, e2⟩ := labelsOf_get h (List.getElem?_eq_getElem hi')
  rw [List.getElem?_eq_getElem hi, e] at e1
  cases e1
  exact label_mem e2
theorem lay_kds : ∀ {ks : List Str}, kdsOk ks = true → PyData.canLayAll0 (ks.map PyData.str) = true ∧ PyData.depthAll (ks.map PyData.str) ≤ 3
  | [], _ => by simp [PyData.canLayAll0, PyData.depthAll]
  | k :: r, h => by
    unfold kdsOk at h
    rw [List.all_cons, Bool.and_eq_true, Bool.or_eq_true] at h
    obtain ⟨h1, h2⟩ := h
    obtain ⟨a, b⟩ := lay_kds (ks := r) h2
    have hk : PyData.strOk k = true := by
      rcases h1 with h1 | h1 <;> (rw [of_decide_eq_true h1]; decide +kernel)
    rw [List.map_cons]
    simp [PyData.canLayAll0, PyData.depthAll, PyData.canLay0, PyData.depth, a, hk]
    omega
theorem shaped_kds {ks : List Str} (h : kdsOk ks = true) : SeqAt.shaped (tupS ks) = true := by
  obtain ⟨a, b⟩ := lay_kds h
  unfold SeqAt.shaped tupS
  rw [Bool.and_eq_true]
  exact ⟨by simpa only [PyData.canLay0] using a, decide_eq_true (by rw [PyData.depth]; omega)⟩
theorem eqv_kdsA : ∀ (ks cs : List Str), PyData.eqvAll (ks.map PyData.str) (cs.map PyData.str) = decide (ks = cs)
  | [], [] => by simp [PyData.eqvAll]
  | [], _ :: _ => by simp [PyData.eqvAll]
  | _ :: _, [] => by simp [PyData.eqvAll]
  | k :: r, l :: q => by
    rw [List.map_cons, List.map_cons, PyData.eqvAll, eqv_kdsA r q, Bool.eq_iff_iff]
    simp [PyData.eqv]
theorem eqv_kds (ks cs : List Str) : PyData.eqv (tupS ks) (tupS cs) = decide (ks = cs) := by
  unfold tupS
  rw [PyData.eqv, eqv_kdsA]
def bodiesI : Ins → List (List Ins)
  | .blk _ _ b => [b]
  | .ifb _ b1 b2 => [b1, b2]
  | .tryb _ _ b => [b]
  | _ => []
def bodD (b : List Ins) : PyData := .tuple (insDs b)
/-- an instruction with code, its name and its shape -/
def blkOf : Ins → Option (Str × Shp × List (Option Nat × Nat))
  | .blk nm sh _ => if nm = "block" ∨ nm = "loop" then some (nm, sh, []) else none
  | .ifb sh _ _ => some ("if", sh, [])
  | .tryb sh cs _ => some ("try_table", sh, cs)
  | _ => none
theorem sl_lastD {K : PySem.W.Frag} {H : Hp} {Q : VK} {x : V} {ds : List PyData} {d : PyData} {m : Nat} (h : Dt K H x (.tuple ds)) (e : ds.drop (m + 1) = [d]) (q : ∀ p H', Same H H' → Dt K H' (.ref p) (.tuple [d]) → Q (.ref p) H') : rSlT K x (some (-1)) none H Q := by
  obtain ⟨a, xs, rfl, hs, ha⟩ := h.vtup
  have l := ha.len
  have le : ds.length = m + 2 := by have := congrArg List.length e; rw [List.length_drop] at this; have : ds.length - (m + 1) = 1 := this; omega
  have ei : HT.sIx xs.length 0 (some (-1)) = m + 1 := by
    show (if (-1 : Int) < 0 then ((-1 : Int) + (xs.length : Int)).toNat else min (-1 : Int).toNat xs.length) = _
    rw [if_pos (by decide)]; omega
  refine ⟨a, xs, rfl, hs, fun z => ?_, fun p hp => ?_⟩
  · have := z.1
    rw [ei] at this
    omega
  · have ec : cutV xs (some (-1)) none = xs.drop (m + 1) := by
      unfold cutV
      rw [ei, HT.sIx_none]
      exact List.take_of_length_le (by rw [List.length_drop]; exact Nat.le_refl _)
    rw [ec]
    have := (ha.drop (m + 1)).same (Same.new hp (o := .tup (xs.drop (m + 1))))
    rw [e] at this
    exact q p _ (Same.new hp) (.tup (SqT.of upd_same) this)
theorem blkOf_data {i : Ins} {nm : Str} {sh : Shp} {cc : List (Option Nat × Nat)} (hb : blkOf i = some (nm, sh, cc)) : ∃ ds, insD i = .tuple (.str nm :: shpD sh :: ds) ∧ (nm = "try_table" → ∃ b, ds = [.tuple (cc.map catD), b]) ∧ (¬ nm = "try_table" → cc = []) := by
  cases i with
  | i0 => cases hb
  | i1 => cases hb
  | i2 => cases hb
  | brt => cases hb
  | blk n s b =>
    by_cases h : n = "block" ∨ n = "loop"
    · rw [blkOf, if_pos h] at hb
      cases hb
      exact ⟨_, by rw [insD], fun e => absurd e (by rcases h with rfl | rfl <;> decide +kernel), fun _ => rfl⟩
    · rw [blkOf, if_neg h] at hb; cases hb
  | ifb s b1 b2 => cases hb; exact ⟨_, by rw [insD], fun e => absurd e (by decide +kernel), fun _ => rfl⟩
  | tryb s q b => cases hb; exact ⟨_, by rw [insD], fun _ => ⟨_, rfl⟩, fun e => absurd rfl e⟩
def sp_bodies_of (K : PySem.W.Frag) (_cs : Cs) : Sp := fun vs H Q _ => ∃ (iv : V) (i : Ins), vs = [iv] ∧ Dt K H iv (insD i) ∧ (blkOf i).isSome = true ∧ ∀ v H', Same H H' → Dt K H' v (.tuple ((bodiesI i).map bodD)) → Q v H'
def sp_Walker_mark (K : PySem.W.Frag) (cs : Cs) : Sp := fun vs H Q _ => ∃ (A : Ads) (c : Ctx) (w : Wk) (E : XK), vs = [.ref A.wa] ∧ WkAt K cs H A c w ∧ WOut K cs A c H Q E (markO w)
def sp_Walker_choose (K : PySem.W.Frag) (cs : Cs) : Sp := fun vs H Q E => ∃ (A : Ads) (c : Ctx) (w : Wk), vs = [.ref A.wa] ∧ WkAt K cs H A c w ∧ WOut K cs A c H Q E (chooseO w)
def sp_Walker_branch_by_table (K : PySem.W.Frag) (cs : Cs) : Sp := fun vs H Q E => ∃ (A : Ads) (c : Ctx) (w : Wk) (iv : V) (ls : List Nat) (d : Nat), vs = [.ref A.wa, iv] ∧ WkAt K cs H A c w ∧ Dt K H iv (insD (.brt ls d)) ∧ WOut K cs A c H Q E (tblO w ls d)
def sp_Walker_check_catch (K : PySem.W.Frag) (cs : Cs) : Sp := fun vs H Q E => ∃ (A : Ads) (c : Ctx) (w : Wk) (tv : V) (t : Option Nat) (l : Nat), vs = [.ref A.wa, tv, .int (l : Int)] ∧ Dt K H tv (oTagD t) ∧ WkAt K cs H A c w ∧ WOut K cs A c H Q E (catch1 c w t l (ok1 w))
def sp_Walker_walk_body (K : PySem.W.Frag) (cs : Cs) (d : Nat) : Sp := fun vs H Q E => ∃ (A : Ads) (c : Ctx) (w : Wk) (bv pv rv lv : V) (is : List Ins) (ps rs lb : List Str), vs = [.ref A.wa, bv, pv, rv, lv] ∧ Dt K H bv (bodD is) ∧ Dt K H pv (tupS ps) ∧ Dt K H rv (tupS rs) ∧ Dt K H lv (tupS lb) ∧ WkAt K cs H A c w ∧ WOut K cs A c H Q E (bodyO (d + 1) c w is ps rs lb)
def sp_Walker_walk_body_at (K : PySem.W.Frag) (cs : Cs) : Nat → Sp
  | 0 => fun _ _ _ _ => False
  | d + 1 => sp_Walker_walk_body K cs d
def sp_Walker_walk_block_at (K : PySem.W.Frag) (cs : Cs) (d : Nat) : Sp := fun vs H Q E => ∃ (A : Ads) (c : Ctx) (w : Wk) (iv : V) (i : Ins) (nm : Str) (sh : Shp) (cc : List (Option Nat × Nat)), vs = [.ref A.wa, iv] ∧ Dt K H iv (insD i) ∧ blkOf i = some (nm, sh, cc) ∧ WkAt K cs H A c w ∧ WOut K cs A c H Q E (blockO (bodyO d c) c w nm sh cc (bodiesI i))
def sp_Walker_walk_instruction_at (K : PySem.W.Frag) (cs : Cs) (d : Nat) : Sp := fun vs H Q E => ∃ (A : Ads) (c : Ctx) (w : Wk) (iv : V) (i : Ins), vs = [.ref A.wa, iv] ∧ Dt K H iv (insD i) ∧ WkAt K cs H A c w ∧ WOut K cs A c H Q E (insO (bodyO d c) c w i)
theorem body_at {K : PySem.W.Frag} {cs : Cs} {H : Hp} {Q : VK} {E : XK} {A : Ads} {c : Ctx} {w : Wk} {bv pv rv lv : V} {is : List Ins} {ps rs lb : List Str} (h1 : Dt K H bv (bodD is)) (h2 : Dt K H pv (tupS ps)) (h3 : Dt K H rv (tupS rs)) (h4 : Dt K H lv (tupS lb)) (hw : WkAt K cs H A c w) :
    ∀ {d : Nat}, WOut K cs A c H Q E (bodyO d c w is ps rs lb) → sp_Walker_walk_body_at K cs d [.ref A.wa, bv, pv, rv, lv] H Q E
  | 0, hO => absurd rfl hO.nq
  | _ + 1, hO => ⟨A, c, w, bv, pv, rv, lv, is, ps, rs, lb, rfl, h1, h2, h3, h4, hw, hO⟩
theorem bnd_assoc (x : Out) (f g : Wk → Out) : bnd (bnd x f) g = bnd x fun w => bnd (f w) g := by
  obtain ⟨w, o⟩ := x
  cases o <;> rfl
theorem catch1_bnd (c : Ctx) (w : Wk) (t : Option Nat) (l : Nat) (r : Out) : catch1 c w t l r = bnd (catch1 c w t l (ok1 w)) fun _ => r := by
  unfold catch1
  cases labelOf w l with
  | none => rfl
  | some ks =>
    cases tagT c t with
    | none => rfl
    | some cs =>
      show (if (kdsOk ks && kdsOk cs) = true then _ else _) = bnd (if (kdsOk ks && kdsOk cs) = true then _ else _) _
      split
      · split <;> rfl
      · rfl
theorem catch1_same {c : Ctx} {w w1 : Wk} {t : Option Nat} {l : Nat} (h : catch1 c w t l (ok1 w) = (w1, none)) : w = w1 := by
  unfold catch1 at h
  cases e : labelOf w l with
  | none => rw [e] at h; cases h
  | some ks =>
    rw [e] at h
    cases e2 : tagT c t with
    | none => rw [e2] at h; cases h
    | some cs =>
      rw [e2] at h
      have h : (if (kdsOk ks && kdsOk cs) = true then (if ks = cs then ok1 w else er1 w kmm) else er1 w qq) = (w1, none) := h
      split at h
      · split at h
        · exact (Prod.mk.inj h).1
        · cases h
      · cases h
theorem shape_len {c : Ctx} {sh : Shp} {s : List Str × List Str} (hc : CtxOk c) (h : shapeOf c sh = some s) : s.1.length ≤ 1000 ∧ s.2.length ≤ 1000 := by
  cases sh with
  | none => cases h; exact ⟨Nat.zero_le _, Nat.zero_le _⟩
  | kind k => cases h; exact ⟨Nat.zero_le _, by show 1 ≤ 1000; decide⟩
  | idx n => exact hc.1 s (List.mem_of_getElem? h)
theorem bnd_ok1 (x : Out) : bnd x ok1 = x := by
  obtain ⟨w, o⟩ := x
  cases o <;> rfl
def lo (nm : Str) (w : Wk) : Out := if loosing nm = true then (if okLv w = true then ok1 (loosen w) else er1 w qq) else ok1 w
theorem lo_no {nm : Str} (h : loosing nm = false) (x : Out) : bnd x (lo nm) = x := by
  rw [show lo nm = ok1 from funext fun w => by unfold lo; rw [h]; rfl, bnd_ok1]
def nameI : Ins → Str
  | .i0 nm => nm
  | .i1 nm _ => nm
  | .i2 nm _ _ => nm
  | .brt _ _ => "br_table"
  | .blk nm _ _ => nm
  | .ifb _ _ _ => "if"
  | .tryb _ _ _ => "try_table"
theorem insD_name (i : Ins) : ∃ ds, insD i = .tuple (.str (nameI i) :: ds) := by
  cases i <;> exact ⟨_, by rw [insD]; rfl⟩
/-- the ways of an instruction: a block, select, br_table, or one whose effect the tables tell -/
inductive InsP (rec : Wk → List Ins → List Str → List Str → List Str → Out) (c : Ctx) (w : Wk) (i : Ins) : Prop
  | block (sh : Shp) (cc : List (Option Nat × Nat)) (h : blkOf i = some (nameI i, sh, cc)) (hl : loosing (nameI i) = false) (hin : inV (.str (nameI i)) (v_BLOCKS.map V.str) = true) (e : insO rec c w i = blockO rec c w (nameI i) sh cc (bodiesI i))
  | select (h : nameI i = "select") (e : insO rec c w i = chooseO w)
  | table (ls : List Nat) (d : Nat) (h : i = .brt ls d) (e : insO rec c w i = bnd (tblO w ls d) (lo "br_table"))
  | eff (hin : inV (.str (nameI i)) (v_BLOCKS.map V.str) = false) (h1 : ¬ nameI i = "select") (h2 : ¬ nameI i = "br_table") (x : Except Str Eff) (e : insO rec c w i = bnd (runEff w x) (lo (nameI i)))
    (hx : ∀ {w0 : World} {K : PySem.W.Frag} {mg : Str → Option Value} {cs : Cs} {H : Hp} {Q : VK} {E : XK} {sc lb : Addr} {iv : V}, Tp w0 K mg cs → ScAt K cs H sc lb c w.labels → (∀ ks ∈ w.labels, ks.length ≤ 1000) → CtxOk c → Dt K H iv (insD i) → x ≠ .error qq → (∀ e, x = .ok e → ∀ v H', Same H H' → Dt K H' v (effD e) → Q v H') → (∀ r, x = .error r → Flt cs H E r) →
      EffP K cs H sc lb c w.labels iv Q E (nameI i))
def rulesB : List Str := ["local.get", "local.set", "local.tee", "global.get", "global.set", "br", "br_if", "return", "call", "call_indirect", "throw"]
theorem names0 {c : Ctx} {w : Wk} {nm : Str} {n m : Nat} (h : eff0 c nm ≠ .error qq) : nm = "return" ∨ nm = "nop" ∨ nm = "unreachable" ∨ nm = "drop" ∨ nm = "memory.size" ∨ nm = "memory.grow" ∨ nm = "memory.fill" ∨ nm = "memory.copy" ∨ effN nm ≠ .error qq := by
  unfold eff0 at h
  by_cases h0 : nm = "return"
  · exact .inl h0
  rw [if_neg h0] at h
  by_cases h1 : nm = "nop"
  · exact .inr (.inl h1)
  rw [if_neg h1] at h
  by_cases h2 : nm = "unreachable"
  · exact .inr (.inr (.inl h2))
  rw [if_neg h2] at h
  by_cases h3 : nm = "drop"
  · exact .inr (.inr (.inr (.inl h3)))
  rw [if_neg h3] at h
  by_cases h4 : nm = "memory.size"
  · exact .inr (.inr (.inr (.inr (.inl h4))))
  rw [if_neg h4] at h
  by_cases h5 : nm = "memory.grow"
  · exact .inr (.inr (.inr (.inr (.inr (.inl h5)))))
  rw [if_neg h5] at h
  by_cases h6 : nm = "memory.fill"
  · exact .inr (.inr (.inr (.inr (.inr (.inr (.inl h6))))))
  rw [if_neg h6] at h
  by_cases h7 : nm = "memory.copy"
  · exact .inr (.inr (.inr (.inr (.inr (.inr (.inr (.inl h7)))))))
  rw [if_neg h7] at h
  exact .inr (.inr (.inr (.inr (.inr (.inr (.inr (.inr h)))))))
theorem names1 {c : Ctx} {w : Wk} {nm : Str} {n m : Nat} (h : eff1 c w nm n ≠ .error qq) : nm = "i32.const" ∨ nm = "i64.const" ∨ nm = "local.get" ∨ nm = "local.set" ∨ nm = "local.tee" ∨ nm = "global.get" ∨ nm = "global.set" ∨ nm = "br" ∨ nm = "br_if" ∨ nm = "call" ∨ nm = "throw" := by
  unfold eff1 at h
  by_cases h0 : nm = "i32.const"
  · exact .inl h0
  rw [if_neg h0] at h
  by_cases h1 : nm = "i64.const"
  · exact .inr (.inl h1)
  rw [if_neg h1] at h
  by_cases h2 : nm = "local.get"
  · exact .inr (.inr (.inl h2))
  rw [if_neg h2] at h
  by_cases h3 : nm = "local.set"
  · exact .inr (.inr (.inr (.inl h3)))
  rw [if_neg h3] at h
  by_cases h4 : nm = "local.tee"
  · exact .inr (.inr (.inr (.inr (.inl h4))))
  rw [if_neg h4] at h
  by_cases h5 : nm = "global.get"
  · exact .inr (.inr (.inr (.inr (.inr (.inl h5)))))
  rw [if_neg h5] at h
  by_cases h6 : nm = "global.set"
  · exact .inr (.inr (.inr (.inr (.inr (.inr (.inl h6))))))
  rw [if_neg h6] at h
  by_cases h7 : nm = "br"
  · exact .inr (.inr (.inr (.inr (.inr (.inr (.inr (.inl h7)))))))
  rw [if_neg h7] at h
  by_cases h8 : nm = "br_if"
  · exact .inr (.inr (.inr (.inr (.inr (.inr (.inr (.inr (.inl h8))))))))
  rw [if_neg h8] at h
  by_cases h9 : nm = "call"
  · exact .inr (.inr (.inr (.inr (.inr (.inr (.inr (.inr (.inr (.inl h9)))))))))
  rw [if_neg h9] at h
  by_cases h10 : nm = "throw"
  · exact .inr (.inr (.inr (.inr (.inr (.inr (.inr (.inr (.inr (.inr (h10))))))))))
  rw [if_neg h10] at h
  exact absurd rfl h
theorem effN_P {w : World} {K : PySem.W.Frag} {mg : Str → Option Value} {cs : Cs} {H : Hp} {Q : VK} {E : XK} {sc lb : Addr} {c : Ctx} {ls : List (List Str)} {iv : V} {nm : Str} (_T : Tp w K mg cs) (hN : effN nm ≠ .error qq) (_hq : ∀ e, effN nm = .ok e → ∀ v H', Same H H' → Dt K H' v (effD e) → Q v H') : EffP K cs H sc lb c ls iv Q E nm := absurd rfl hN
theorem effN_eff0 {c : Ctx} {nm : Str} (hN : effN nm ≠ .error qq) : eff0 c nm = effN nm := absurd rfl hN
theorem eff_P0 {w : World} {K : PySem.W.Frag} {mg : Str → Option Value} {cs : Cs} {H : Hp} {Q : VK} {E : XK} {sc lb : Addr} {c : Ctx} {wk : Wk} {iv : V} {nm : Str} (T : Tp w K mg cs) (hsc : ScAt K cs H sc lb c wk.labels) (hn : eff0 c nm ≠ .error qq)
    (hq : ∀ e, eff0 c nm = .ok e → ∀ v H', Same H H' → Dt K H' v (effD e) → Q v H') (he : ∀ r, eff0 c nm = .error r → Flt cs H E r) : EffP K cs H sc lb c wk.labels iv Q E nm := by
  by_cases hN : effN nm ≠ .error qq
  · exact effN_P T hN (fun e h v H' s d => hq e ((effN_eff0 hN).trans h) v H' s d)
  rcases names0 (w := wk) (n := 0) (m := 0) hn with rfl | rfl | rfl | rfl | rfl | rfl | rfl | rfl | hN2
  · exact .rule _ _ rfl (.inr (.inr (.inr (.inr (.inr (.inr (.inr (.inl ⟨rfl, rfl⟩)))))))) ⟨sc, lb, c, wk.labels, iv, rfl, hsc, fun v H' s d => hq _ rfl v H' s d⟩
  · exact .plain _ rfl rfl rfl rfl (hq _ rfl _ _ (Same.refl _) (T.wd_PLAIN_EFFECTS_0 H))
  · exact .plain _ rfl rfl rfl rfl (hq _ rfl _ _ (Same.refl _) (T.wd_PLAIN_EFFECTS_1 H))
  · exact .plain _ rfl rfl rfl rfl (hq _ rfl _ _ (Same.refl _) (T.wd_PLAIN_EFFECTS_2 H))
  · refine .mem _ rfl rfl rfl (fun nm => hq _ (if_neg nm) _ _ (Same.refl _) (T.wd_MEMORY_EFFECTS_0 H)) (fun em => he _ (if_pos em))
  · refine .mem _ rfl rfl rfl (fun nm => hq _ (if_neg nm) _ _ (Same.refl _) (T.wd_MEMORY_EFFECTS_1 H)) (fun em => he _ (if_pos em))
  · refine .mem _ rfl rfl rfl (fun nm => hq _ (if_neg nm) _ _ (Same.refl _) (T.wd_MEMORY_EFFECTS_2 H)) (fun em => he _ (if_pos em))
  · refine .mem _ rfl rfl rfl (fun nm => hq _ (if_neg nm) _ _ (Same.refl _) (T.wd_MEMORY_EFFECTS_3 H)) (fun em => he _ (if_pos em))
  · exact absurd hN2 hN
theorem eff_P1 {w : World} {K : PySem.W.Frag} {mg : Str → Option Value} {cs : Cs} {H : Hp} {Q : VK} {E : XK} {sc lb : Addr} {c : Ctx} {wk : Wk} {iv : V} {nm : Str} {n : Nat} (T : Tp w K mg cs) (hsc : ScAt K cs H sc lb c wk.labels) (lok : ∀ ks ∈ wk.labels, ks.length ≤ 1000) (hi : Dt K H iv (.tuple [.str nm, .int (n : Int)])) (hn : eff1 c wk nm n ≠ .error qq)
    (hq : ∀ e, eff1 c wk nm n = .ok e → ∀ v H', Same H H' → Dt K H' v (effD e) → Q v H') (he : ∀ r, eff1 c wk nm n = .error r → Flt cs H E r) : EffP K cs H sc lb c wk.labels iv Q E nm := by
  rcases names1 (m := 0) hn with rfl | rfl | rfl | rfl | rfl | rfl | rfl | rfl | rfl | rfl | rfl
  · exact .plain _ rfl rfl rfl rfl (hq _ rfl _ _ (Same.refl _) (T.wd_PLAIN_EFFECTS_3 H))
  · exact .plain _ rfl rfl rfl rfl (hq _ rfl _ _ (Same.refl _) (T.wd_PLAIN_EFFECTS_4 H))
  · exact .rule _ _ rfl (.inl ⟨rfl, rfl⟩) ⟨sc, lb, c, wk, iv, n, rfl, hsc, lok, hi, fun e h => hq e h, fun r h => he r h⟩
  · exact .rule _ _ rfl (.inr (.inl ⟨rfl, rfl⟩)) ⟨sc, lb, c, wk, iv, n, rfl, hsc, lok, hi, fun e h => hq e h, fun r h => he r h⟩
  · exact .rule _ _ rfl (.inr (.inr (.inl ⟨rfl, rfl⟩))) ⟨sc, lb, c, wk, iv, n, rfl, hsc, lok, hi, fun e h => hq e h, fun r h => he r h⟩
  · exact .rule _ _ rfl (.inr (.inr (.inr (.inl ⟨rfl, rfl⟩)))) ⟨sc, lb, c, wk, iv, n, rfl, hsc, lok, hi, fun e h => hq e h, fun r h => he r h⟩
  · exact .rule _ _ rfl (.inr (.inr (.inr (.inr (.inl ⟨rfl, rfl⟩))))) ⟨sc, lb, c, wk, iv, n, rfl, hsc, lok, hi, fun e h => hq e h, fun r h => he r h⟩
  · exact .rule _ _ rfl (.inr (.inr (.inr (.inr (.inr (.inl ⟨rfl, rfl⟩)))))) ⟨sc, lb, c, wk, iv, n, rfl, hsc, lok, hi, fun e h => hq e h, fun r h => he r h⟩
  · exact .rule _ _ rfl (.inr (.inr (.inr (.inr (.inr (.inr (.inl ⟨rfl, rfl⟩))))))) ⟨sc, lb, c, wk, iv, n, rfl, hsc, lok, hi, fun e h => hq e h, fun r h => he r h⟩
  · exact .rule _ _ rfl (.inr (.inr (.inr (.inr (.inr (.inr (.inr (.inr (.inl ⟨rfl, rfl⟩))))))))) ⟨sc, lb, c, wk, iv, n, rfl, hsc, lok, hi, fun e h => hq e h, fun r h => he r h⟩
  · exact .rule _ _ rfl (.inr (.inr (.inr (.inr (.inr (.inr (.inr (.inr (.inr (.inr (⟨rfl, rfl⟩))))))))))) ⟨sc, lb, c, wk, iv, n, rfl, hsc, lok, hi, fun e h => hq e h, fun r h => he r h⟩
theorem eff2_acc {c : Ctx} {nm : Str} {n m : Nat} {r : Str × Nat × Str × Bool} (h1 : ¬ nm = "call_indirect") (h2 : accT.find? (fun r => decide (r.1 = nm)) = some r) : eff2 c nm n m = fAcc c r n := by
  unfold eff2
  rw [if_neg h1, h2]
  rfl
def accChk (r : Str × Nat × Str × Bool) : Bool := (valS accB r.1).isSome && !decide (r.1 = "call_indirect") && rulesB.all fun z => !decide (z = r.1)
theorem acc_chk : ∀ r ∈ accT, accChk r = true := by decide +kernel
theorem valS_none {kvs : List (Str × V)} {z : Str} (h : ∀ p ∈ kvs, ¬ p.1 = z) : valS kvs z = none := by
  unfold valS
  rw [List.find?_eq_none.mpr fun p hp => by simpa using h p hp]; rfl
theorem rules_keys (cs : Cs) : (v_RULES cs).map (·.1) = rulesB := rfl
theorem rules_no (cs : Cs) {z : Str} (h : (rulesB.all fun y => !decide (y = z)) = true) : valS (v_RULES cs) z = none := valS_none fun p hp e => by
  have := List.all_eq_true.mp h p.1 (by rw [← rules_keys cs]; exact List.mem_map_of_mem hp)
  rw [e, decide_eq_true rfl] at this
  cases this
theorem eff_P2 {w : World} {K : PySem.W.Frag} {mg : Str → Option Value} {cs : Cs} {H : Hp} {Q : VK} {E : XK} {sc lb : Addr} {c : Ctx} {wk : Wk} {iv : V} {nm : Str} {n m : Nat} (T : Tp w K mg cs) (hsc : ScAt K cs H sc lb c wk.labels) (cok : CtxOk c) (hi : Dt K H iv (.tuple [.str nm, .int (n : Int), .int (m : Int)])) (hn : eff2 c nm n m ≠ .error qq)
    (hq : ∀ e, eff2 c nm n m = .ok e → ∀ v H', Same H H' → Dt K H' v (effD e) → Q v H') (he : ∀ r, eff2 c nm n m = .error r → Flt cs H E r) : EffP K cs H sc lb c wk.labels iv Q E nm := by
  by_cases hc : nm = "call_indirect"
  · subst hc
    exact .rule _ _ rfl (.inr (.inr (.inr (.inr (.inr (.inr (.inr (.inr (.inr (.inl ⟨rfl, rfl⟩)))))))))) ⟨sc, lb, c, wk.labels, iv, n, m, rfl, hsc, fun s hs => (cok.1 s hs).1, hi, fun e h => hq e h, fun r h => he r h⟩
  · cases hf : accT.find? (fun r => decide (r.1 = nm)) with
    | none =>
      refine absurd ?_ hn
      unfold eff2
      rw [if_neg hc, hf]
    | some r =>
      have hm := List.mem_of_find?_eq_some hf
      have en : r.1 = nm := by have := List.find?_some (p := fun (r : Str × Nat × Str × Bool) => decide (r.1 = nm)) hf; exact of_decide_eq_true this
      subst en
      have ck := acc_chk r hm
      unfold accChk at ck
      rw [Bool.and_eq_true, Bool.and_eq_true] at ck
      have e2 := eff2_acc (c := c) (n := n) (m := m) hc hf
      refine .acc (rules_no cs ck.2) ck.1.1 ⟨sc, lb, c, wk.labels, iv, r, n, m, rfl, hsc, hm, hi, fun e h => hq e (e2.trans h), fun z h => he z (e2.trans h)⟩
def plainNames : List Str := ["return", "nop", "unreachable", "drop", "memory.size", "memory.grow", "memory.fill", "memory.copy", "i32.const", "i64.const", "local.get", "local.set", "local.tee", "global.get", "global.set", "br", "br_if", "call", "throw", "call_indirect"]
def plainChk (z : Str) : Bool := !inV (.str z) (v_BLOCKS.map V.str) && !decide (z = "select") && !decide (z = "br_table")
theorem plain_chk : ∀ z ∈ plainNames, plainChk z = true := by decide +kernel
theorem effN_plain {nm : Str} (hN : effN nm ≠ .error qq) : plainChk nm = true := absurd rfl hN
theorem acc_plain : ∀ r ∈ accT, plainChk r.1 = true ∧ loosing r.1 = false := by decide +kernel
theorem blk_chk : ∀ z ∈ (["block", "loop", "if", "try_table"] : List Str), loosing z = false ∧ inV (.str z) (v_BLOCKS.map V.str) = true := by decide +kernel
theorem loos_in (nm : Str) : inV (.str nm) (v_LOOSENING.map V.str) = loosing nm := by
  have k : ∀ a : Str, (a == nm) = decide (nm = a) := fun a => by rw [Bool.eq_iff_iff, beq_iff_eq, decide_eq_true_iff]; exact eq_comm
  unfold inV loosing v_LOOSENING
  simp only [List.map, List.any, eqV, k, Bool.or_assoc, Bool.or_false]
theorem plain_of {z : Str} (h : plainChk z = true) : inV (.str z) (v_BLOCKS.map V.str) = false ∧ ¬ z = "select" ∧ ¬ z = "br_table" := by
  unfold plainChk at h
  rw [Bool.and_eq_true, Bool.and_eq_true, Bool.not_eq_true', Bool.not_eq_true', Bool.not_eq_true'] at h
  exact ⟨h.1.1, of_decide_eq_false h.1.2, of_decide_eq_false h.2⟩
theorem runEff_qq {w : Wk} {x : Except Str Eff} {f : Wk → Out} (h : (bnd (runEff w x) f).2 ≠ some qq) : x ≠ .error qq := fun e => by
  subst e; exact h rfl
theorem ins_P {rec : Wk → List Ins → List Str → List Str → List Str → Out} {c : Ctx} {w : Wk} {i : Ins} (hn : (insO rec c w i).2 ≠ some qq) : InsP rec c w i := by
  cases i with
  | i0 nm =>
    by_cases hs : nm = "select"
    · exact .select hs (by rw [insO, if_pos hs])
    · have e : insO rec c w (.i0 nm) = bnd (runEff w (eff0 c nm)) (lo nm) := by rw [insO, if_neg hs]; rfl
      rw [e] at hn
      have hq := runEff_qq hn
      have hm : nm ∈ plainNames ∨ effN nm ≠ .error qq := by
        rcases names0 (w := w) (n := 0) (m := 0) hq with rfl | rfl | rfl | rfl | rfl | rfl | rfl | rfl | hN <;> first | exact .inr hN | (refine .inl ?_; unfold plainNames; simp; done)
      obtain ⟨a, b, d⟩ := plain_of (hm.elim (plain_chk nm) effN_plain)
      exact .eff a b d _ e fun T hsc lok cok hi hx hq he => eff_P0 T hsc hx hq he
  | i1 nm n =>
    by_cases h0 : 0 ≤ n
    · have e : insO rec c w (.i1 nm n) = bnd (runEff w (eff1 c w nm n.toNat)) (lo nm) := by rw [insO, if_pos (.inl h0)]; rfl
      rw [e] at hn
      have hq := runEff_qq hn
      have hm : nm ∈ plainNames := by
        rcases names1 (m := 0) hq with rfl | rfl | rfl | rfl | rfl | rfl | rfl | rfl | rfl | rfl | rfl <;> (unfold plainNames; simp)
      obtain ⟨a, b, d⟩ := plain_of (plain_chk nm hm)
      refine .eff a b d _ e fun T hsc lok cok hi hx hq he => eff_P1 T hsc lok ?_ hx hq he
      rw [insD] at hi
      rw [Int.toNat_of_nonneg h0]
      exact hi
    · by_cases hc : cstB nm = true
      · have e : insO rec c w (.i1 nm n) = bnd (runEff w (eff1 c w nm n.toNat)) (lo nm) := by rw [insO, if_pos (.inr hc)]; rfl
        unfold cstB at hc
        rw [Bool.or_eq_true] at hc
        rcases hc with hc | hc
        · obtain rfl := of_decide_eq_true hc
          obtain ⟨a, b, d⟩ := plain_of (plain_chk "i32.const" (by unfold plainNames; simp))
          exact .eff a b d _ e fun T hsc lok cok hi hx hq he => .plain _ rfl rfl rfl rfl (hq _ rfl _ _ (Same.refl _) (T.wd_PLAIN_EFFECTS_3 _))
        · obtain rfl := of_decide_eq_true hc
          obtain ⟨a, b, d⟩ := plain_of (plain_chk "i64.const" (by unfold plainNames; simp))
          exact .eff a b d _ e fun T hsc lok cok hi hx hq he => .plain _ rfl rfl rfl rfl (hq _ rfl _ _ (Same.refl _) (T.wd_PLAIN_EFFECTS_4 _))
      · exact absurd (by rw [insO, if_neg (fun z => z.elim h0 hc)]; rfl) hn
  | i2 nm n m =>
    by_cases h0 : 0 ≤ n ∧ 0 ≤ m
    · have e : insO rec c w (.i2 nm n m) = runEff w (eff2 c nm n.toNat m.toNat) := by rw [insO, if_pos h0]
      have hq : eff2 c nm n.toNat m.toNat ≠ .error qq := runEff_qq (f := ok1) (by rw [bnd_ok1, ← e]; exact hn)
      have hm : plainChk nm = true ∧ loosing nm = false := by
        by_cases hc : nm = "call_indirect"
        · subst hc; decide +kernel
        · cases hf : accT.find? (fun r => decide (r.1 = nm)) with
          | none => exact absurd (by unfold eff2; rw [if_neg hc, hf]) hq
          | some r =>
            have en : r.1 = nm := by have := List.find?_some (p := fun (r : Str × Nat × Str × Bool) => decide (r.1 = nm)) hf; exact of_decide_eq_true this
            subst en
            exact acc_plain r (List.mem_of_find?_eq_some hf)
      obtain ⟨a, b, d⟩ := plain_of hm.1
      refine .eff a b d _ (e.trans (lo_no hm.2 _).symm) fun T hsc lok cok hi hx hq he => eff_P2 T hsc cok ?_ hx hq he
      rw [insD] at hi
      rw [Int.toNat_of_nonneg h0.1, Int.toNat_of_nonneg h0.2]
      exact hi
    · exact absurd (by rw [insO, if_neg h0]; rfl) hn
  | brt ls d => exact .table ls d rfl rfl
  | blk nm sh b =>
    by_cases h : nm = "block" ∨ nm = "loop"
    · refine .block sh [] (by rw [blkOf, if_pos h]; rfl) ?_ ?_ (by rw [insO, if_pos h]; rfl)
      · exact (blk_chk nm (by rcases h with rfl | rfl <;> simp)).1
      · exact (blk_chk nm (by rcases h with rfl | rfl <;> simp)).2
    · exact absurd (by rw [insO, if_neg h]; rfl) hn
  | ifb sh b1 b2 => exact .block sh [] rfl (blk_chk "if" (by simp)).1 (blk_chk "if" (by simp)).2 rfl
  | tryb sh cc b => exact .block sh cc rfl (blk_chk "try_table" (by simp)).1 (blk_chk "try_table" (by simp)).2 rfl
abbrev wk0 : Wk := ⟨[], [], [], []⟩
/-- a context made from a module -/
def CtxOf (M : Mo) (sgn : List Str × List Str) (own : List Str) (c : Ctx) : Prop := (sgn.1.length + own.length ≤ 1000) ∧ c.slots = sgn.1 ++ own ∧ c.results = sgn.2 ∧ c.sigs = M.sigs ∧ funsD M = c.funs.map natD ∧ tagsD M = c.tags.map natD ∧ varsD M = c.heads.map hdD ∧ c.tabs = (tabsD M).length ∧ c.mems = (memsD M).length
def sp_Walker___init__ (K : PySem.W.Frag) (cs : Cs) : Sp := fun vs H Q _ => ∃ (p dx m : Addr) (M : Mo) (sg ow : V) (sgn : List Str × List Str) (own : List Str) (c : Ctx), vs = [.ref p, .ref m, sg, ow] ∧ H p = some (.ins cs.C_Walker dx []) ∧ MoAt K cs H m M ∧ M.small ∧
  Dt K H sg (sgD sgn) ∧ Dt K H ow (tupS own) ∧ CtxOf M sgn own c ∧ CtxOk c ∧ ∀ (A : Ads) (H' : Hp), A.wa = p → SameBut [p] H H' → (∀ a ∈ A.L, H a = none) → WkAt K cs H' A c wk0 → Q .non H'
section
variable {P : Program} {w : World} {K : PySem.W.Frag} {mg : Str → Option Value} {base : Heap} {cs : Cs}
theorem c_bodies_of (D : Def K mg "bodies_of" s_bodies_of ["instruction"]) (T : Tp w K mg cs)  : Cal P w K mg base CX0 1 "bodies_of" (sp_bodies_of K cs) := by
  refine D.ok sc_bodies_of (fun vs H Q E h => ?_) (fun f cdv A outer s H vs Q E hr h => ?_)
  · obtain ⟨iv, i, rfl, _⟩ := h; rfl
  · obtain ⟨iv, i, rfl, hi, hb, q⟩ := h
    refine ⟨_, (pss_cons (ps_set (i := 1) sc_bodies_of.nd rfl (by first | exact Or.inl rfl | exact Or.inr rfl) (pe_ix ix_tup (pv 0) pe_int (fun _ _ => rfl)))
      (pss_cons (ps_if (pt_cmpR op_notIn_seq (pv 1) (pe_glob (v := .ref cs.t_BLOCKS) (by rfl) T.g_BLOCKS rfl) (by first | rfl | exact nomark _)) (pss_one (ps_ret (pe_tup pa_nil))) pss_nil)
      (pss_cons (ps_if (pt_cmpR op_eq (pv 1) pe_str (by first | rfl | exact nomark _)) (pss_one (ps_ret (pe_slice sl_tup (pv 0) (po_some pe_int) po_none))) pss_nil)
      (pss_one (ps_ret (pe_slice sl_tup (pv 0) (po_some (pe_un un_neg pe_int)) po_none)))))), ?_⟩
    cases i with
    | i0 => cases hb
    | i1 => cases hb
    | i2 => cases hb
    | brt => cases hb
    | blk nm sh b =>
      rw [insD] at hi
      walk_at "go"
      refine ix_D (k := 0) hi rfl fun v hv => ?_
      have v0 := hv.vstr
      subst v0
      walk_at "go"
      have hn : nm = "block" ∨ nm = "loop" := by
        by_cases h : nm = "block" ∨ nm = "loop"
        · exact h
        · rw [blkOf, if_neg h] at hb; cases hb
      have e : inV (V.str nm) (v_BLOCKS.map V.str) = true := by rcases hn with rfl | rfl <;> rfl
      have ne : ¬ nm = "if" := by rcases hn with rfl | rfl <;> decide +kernel
      refine ⟨cs.t_BLOCKS, _, rfl, .inr T.d_BLOCKS.sq, rfl, rfl, ?_⟩
      rw [e]
      walk_at "go"
      refine ifSN ne ?_
      walk_at "go"
      exact sl_lastD (m := 1) hi rfl fun p H' s' d' => q _ _ s' d'
    | ifb sh b1 b2 =>
      rw [insD] at hi
      walk_at "go"
      refine ix_D (k := 0) hi rfl fun v hv => ?_
      have v0 := hv.vstr
      subst v0
      walk_at "go"
      refine ⟨cs.t_BLOCKS, _, rfl, .inr T.d_BLOCKS.sq, rfl, rfl, ?_⟩
      rw [show inV (V.str "if") (v_BLOCKS.map V.str) = true from rfl]
      walk_at "go"
      exact sl_fromD (k := 2) hi (by decide) (by show 0 < 4; decide) fun p H' s' d' => q _ _ s' d'
    | tryb sh cc b =>
      rw [insD] at hi
      walk_at "go"
      refine ix_D (k := 0) hi rfl fun v hv => ?_
      have v0 := hv.vstr
      subst v0
      walk_at "go"
      refine ⟨cs.t_BLOCKS, _, rfl, .inr T.d_BLOCKS.sq, rfl, rfl, ?_⟩
      rw [show inV (V.str "try_table") (v_BLOCKS.map V.str) = true from rfl]
      walk_at "go"
      exact sl_lastD (m := 2) hi rfl fun p H' s' d' => q _ _ s' d'
theorem c_Walker_mark (D : DefM K (Cs.C_Walker cs) "mark" "Walker.mark" s_Walker_mark ["self"]) (T : Tp w K mg cs) (c_KindStack_shown : CalM P w K mg base CX0 (Cs.C_KindStack cs) 2 "shown" (sp_KindStack_shown K cs)) : CalM P w K mg base CX0 (Cs.C_Walker cs) 3 "mark" (sp_Walker_mark K cs) := by
  refine D.ok sc_Walker_mark T.cl_Walker (fun vs H Q E h => ?_) (fun f cdv A outer s H vs Q E hr h => ?_)
  · obtain ⟨A, c, w', E1, rfl, _⟩ := h; rfl
  · obtain ⟨A, c, w', E1, rfl, hw, hO⟩ := h
    obtain ⟨dw, hob⟩ := hw.ob
    obtain ⟨las, hk⟩ := hw.ks
    obtain ⟨dk, hkob⟩ := hk.ob
    obtain ⟨xs, hxs, hxd⟩ := hw.sn
    have b : w'.seen.length < 5000 := by
      by_cases h : w'.seen.length < 5000
      · exact h
      · exact absurd (by unfold markO; rw [if_neg h]; rfl) hO.nq
    have b1 := hw.b1
    have lx := hxd.len
    rw [List.length_map] at lx
    refine ⟨_, (pss_one (ps_expr (pe_bm PySem.F.plainAttrs_list PySem.F.slot_list_append PySem.F.type_list_append mt_append (pe_fld (pv 0) rfl) (pa_cons (pe_mE0 c_KindStack_shown hr (by decide) pass0 (pe_fld (pv 0) rfl)) pa_nil)))), ?_⟩
    walk_at "go"
    refine ⟨A.wa, _, dw, _, _, rfl, hob, T.cl_Walker, T.n_Walker_seen, lk_Walker_seen, ?_⟩
    walk_at "go"
    refine ⟨.inl ⟨rfl, _, SqL.of hxs⟩, ?_⟩
    walk_at "go"
    refine ⟨A.wa, _, dw, _, _, rfl, hob, T.cl_Walker, T.n_Walker_stack, lk_Walker_stack, ?_⟩
    refine ⟨A.ks, dk, _, rfl, hkob, no_KindStack_shown, ?_⟩
    walk_at "go"
    refine ⟨A.ks, A.hl, A.ll, las, w'.held, w'.levels, rfl, hk, by omega, fun t H1 s1 ht => ?_⟩
    walk_at "go"
    refine ⟨_, _, _, rfl, rfl, s1 _ _ hxs, small64' (by omega), ?_⟩
    have hw1 := hw.same s1
    have t1 : Ti K H1 (upd H1 A.sn (.lst (xs ++ [.ref t]))) := Ti.putL (s1 _ _ hxs)
    have sl : SL A.L H1 (upd H1 A.sn (.lst (xs ++ [.ref t]))) := fun b o n _ e => by
      have : b ≠ A.sn := fun z => n (by rw [z]; simp)
      exact (upd_ne this).trans e
    refine hO.ok { w' with seen := w'.seen ++ [(w'.held, isDead w'.levels)] } _ (by unfold markO; rw [if_pos b]; rfl) ((Same.sl s1).trans sl) ?_
    have nd := hw.nd
    simp only [Ads.L, List.nodup_cons, List.mem_cons, List.not_mem_nil, or_false, not_or] at nd
    have key : ∀ b o, b ≠ A.sn → H1 b = some o → upd H1 A.sn (.lst (xs ++ [.ref t])) b = some o := fun b o n e => (upd_ne n).trans e
    obtain ⟨⟨dk1, z1⟩, z2, z3, z4, z5, z6, z7⟩ := hk.same s1
    obtain ⟨ys, ey, dy⟩ := hw1.lb
    refine hw1.step sl ⟨las, ⟨dk1, key _ _ (fun z => by rw [z] at z1; rw [s1 _ _ hxs] at z1; cases z1) z1⟩, key _ _ nd.1.2.2 z2, key _ _ nd.2.1.2 z3, z4, z5, fun i l e => ?_, z7⟩ ⟨ys, key _ _ nd.2.2.1 ey, dy.ti t1⟩ ⟨_, upd_same, ?_⟩ hw.b1 hw.b2 (by rw [List.length_append]; exact b) hw.b4 hw.b5
    · obtain ⟨a, da, a1, a2⟩ := z6 i l e
      exact ⟨a, da, a1, key _ _ (fun z => by rw [z] at a2; rw [s1 _ _ hxs] at a2; cases a2) a2⟩
    · rw [List.map_append]
      exact ((hxd.same s1).ti t1).snoc (ht.ti t1)
theorem c_Walker_choose (D : DefM K (Cs.C_Walker cs) "choose" "Walker.choose" s_Walker_choose ["self"]) (T : Tp w K mg cs) (c_KindStack_take : CalM P w K mg base (L2.CX P w) (Cs.C_KindStack cs) 4 "take" (sp_KindStack_take K cs)) (c_KindStack_take_any : CalM P w K mg base (L2.CX P w) (Cs.C_KindStack cs) 4 "take_any" (sp_KindStack_take_any K cs)) (c_KindStack_put : CalM P w K mg base CX0 (Cs.C_KindStack cs) 1 "put" (sp_KindStack_put K cs)) (c_agree : Cal P w K mg base CX0 1 "agree" (sp_agree K cs)) : CalM P w K mg base (L2.CX P w) (Cs.C_Walker cs) 5 "choose" (sp_Walker_choose K cs) := by
  refine D.okX sc_Walker_choose T.cl_Walker (fun vs H Q E h => ?_) (fun f cdv A outer s H vs Q E hr h => ?_)
  · obtain ⟨A, c, w', rfl, _⟩ := h; rfl
  · obtain ⟨A, c, w', rfl, hw, hO⟩ := h
    obtain ⟨dw, hob⟩ := hw.ob
    obtain ⟨dk, hkob⟩ := hw.stO
    refine ⟨_, (pss_cons (ps_expr (pe_mE c_KindStack_take hr (by decide) (passes_call (takes_of rfl rfl rfl rfl) (fun _ _ _ _ h => h)) (pe_fld (pv 0) rfl) (pa_cons (pe_tup (pa_cons pe_str pa_nil)) pa_nil)))
      (pss_cons (ps_set (i := 1) sc_Walker_choose.nd rfl (by first | exact Or.inl rfl | exact Or.inr rfl) (pe_mE0 c_KindStack_take_any hr (by decide) (passes_call (takes_of rfl rfl rfl rfl) (fun _ _ _ _ h => h)) (pe_fld (pv 0) rfl)))
      (pss_cons (ps_set (i := 2) sc_Walker_choose.nd rfl (by first | exact Or.inl rfl | exact Or.inr rfl) (pe_mE0 c_KindStack_take_any hr (by decide) (passes_call (takes_of rfl rfl rfl rfl) (fun _ _ _ _ h => h)) (pe_fld (pv 0) rfl)))
      (pss_cons (ps_if (pt_not (pt_val (pe_c c_agree hr (by decide) (by rfl) (pa_cons (pv 2) (pa_cons (pv 1) pa_nil))))) (pss_one (ps_raise rfl (takes_of rfl rfl rfl rfl) (pmk_oex T.e_CodeFault.T T.iC_CodeFault T.tI_CodeFault (in_CodeFault T) (hr.mono (by decide)) T.b_CodeFault .nil pass0 (by rfl) T.e_CodeFault.g (pa_cons pe_str pa_nil)))) pss_nil)
      (pss_cons (ps_if (pt_cmpR op_isN (pv 2) pe_non (by first | rfl | exact nomark _)) (pss_one (ps_set (i := 2) sc_Walker_choose.nd rfl (by first | exact Or.inl rfl | exact Or.inr rfl) (pv 1))) pss_nil)
      (pss_one (ps_expr (pe_mE c_KindStack_put hr (by decide) pass0 (pe_fld (pv 0) rfl) (pa_cons (pe_tup (pa_cons (pv 2) pa_nil)) pa_nil))))))))), ?_⟩
    refine ⟨_, rfl, A.wa, _, dw, _, _, rfl, hob, T.cl_Walker, T.n_Walker_stack, lk_Walker_stack, ?_⟩
    refine ⟨A.ks, dk, _, rfl, hkob, no_KindStack_take, ?_⟩
    walk_at "go"
    intro p1 n1; generalize g1 : upd H p1 _ = H1; obtain ⟨s1, d1⟩ := newT (K := K) (ds := i32K.map kdD) n1 g1 (.cons (.str _) .nil)
    refine nil_go ?_
    refine take_W (hw.same s1) (Kds.ref d1) (by decide) ((hO.mono (Same.sl s1)).seq fun w2 H2 _ s2 hw2 hO2 => ?_)
    obtain ⟨dw2, hob2⟩ := hw2.ob
    obtain ⟨dk2, hkob2⟩ := hw2.stO
    walk_at "go"
    refine ⟨A.wa, _, dw2, _, _, rfl, hob2, T.cl_Walker, T.n_Walker_stack, lk_Walker_stack, ?_⟩
    refine ⟨A.ks, dk2, _, rfl, hkob2, no_KindStack_take_any, ?_⟩
    refine nil_go ?_
    refine take_any_W hw2 hO2 fun w3 u H3 s3 hw3 hO3 => ?_
    obtain ⟨dw3, hob3⟩ := hw3.ob
    obtain ⟨dk3, hkob3⟩ := hw3.stO
    walk_at "go"
    refine ⟨A.wa, _, dw3, _, _, rfl, hob3, T.cl_Walker, T.n_Walker_stack, lk_Walker_stack, ?_⟩
    refine ⟨A.ks, dk3, _, rfl, hkob3, no_KindStack_take_any, ?_⟩
    refine nil_go ?_
    refine take_any_W hw3 hO3 fun w4 l H4 s4 hw4 hO4 => ?_
    walk_at "go"
    cases ha : agr l u with
    | false =>
      walk_at "go"
      exact (fly1 (K := K) fun d Hf s2 e => hO4.flt hw4 (w' := w4) (r := kmm) (by rw [ha]; rfl) rfl d Hf s2 e).2
    | true =>
      rw [ha, if_pos rfl] at hO4
      walk_at "go"
      have put : ∀ {H5 : Hp} {p : Addr} {k : Kd}, (k = if l.isNone then u else l) → Same H4 H5 → Dt K H5 (.ref p) (.tuple ([k].map kdD)) → sp_KindStack_put K cs [.ref A.ks, .ref p] H5 (fun _ H' => Q .non H') E0 := fun {H5 p k} ek s5 d5 =>
        put_W (E := E) (Q := Q) (hw4.same s5) (Kds.ref d5) (by rw [ek]; exact hO4.mono (Same.sl s5))
      cases l with
      | none =>
        refine iteT ?_
        walk_at "go"
        obtain ⟨dw4, hob4⟩ := hw4.ob
        obtain ⟨dk4, hkob4⟩ := hw4.stO
        refine ⟨A.wa, _, dw4, _, _, rfl, hob4, T.cl_Walker, T.n_Walker_stack, lk_Walker_stack, ?_⟩
        refine ⟨A.ks, dk4, _, rfl, hkob4, no_KindStack_put, ?_⟩
        walk_at "go"
        intro p2 n2; generalize g2 : upd H4 p2 _ = H5; obtain ⟨s5, d5⟩ := newT (K := K) (ds := [kdD u]) n2 g2 (.cons (kd_dt u) .nil)
        exact put rfl s5 d5
      | some l =>
        refine iteF ?_
        walk_at "go"
        obtain ⟨dw4, hob4⟩ := hw4.ob
        obtain ⟨dk4, hkob4⟩ := hw4.stO
        refine ⟨A.wa, _, dw4, _, _, rfl, hob4, T.cl_Walker, T.n_Walker_stack, lk_Walker_stack, ?_⟩
        refine ⟨A.ks, dk4, _, rfl, hkob4, no_KindStack_put, ?_⟩
        walk_at "go"
        intro p2 n2; generalize g2 : upd H4 p2 _ = H5; obtain ⟨s5, d5⟩ := newT (K := K) (ds := [kdD (some l)]) n2 g2 (.cons (kd_dt (some l)) .nil)
        exact put rfl s5 d5
theorem c_Walker_branch_by_table (D : DefM K (Cs.C_Walker cs) "branch_by_table" "Walker.branch_by_table" s_Walker_branch_by_table ["self", "instruction"]) (T : Tp w K mg cs) (c_KindStack_take : CalM P w K mg base (L2.CX P w) (Cs.C_KindStack cs) 4 "take" (sp_KindStack_take K cs)) (c_Scope_label : CalM P w K mg base (L2.CX P w) (Cs.C_Scope cs) 3 "label" (sp_Scope_label K cs)) (c_KindStack_need : CalM P w K mg base (L2.CX P w) (Cs.C_KindStack cs) 3 "need" (sp_KindStack_need K cs)) : CalM P w K mg base (L2.CX P w) (Cs.C_Walker cs) 5 "branch_by_table" (sp_Walker_branch_by_table K cs) := by
  refine D.okX sc_Walker_branch_by_table T.cl_Walker (fun vs H Q E h => ?_) (fun f cdv A outer s H vs Q E hr h => ?_)
  · obtain ⟨A, c, w', iv, ls, d, rfl, _⟩ := h; rfl
  · obtain ⟨A, c, w', iv, ls, d, rfl, hw, hi, hO⟩ := h
    obtain ⟨dw, hob⟩ := hw.ob
    obtain ⟨rows, er, lls⟩ : ∃ rows, labelsOf w' (ls ++ [d]) = some rows ∧ ls.length ≤ 1000 := by
      cases e : labelsOf w' (ls ++ [d]) with
      | none => exact absurd (by unfold tblO; rw [e]; rfl) hO.nq
      | some rows =>
        by_cases h : ls.length ≤ 1000
        · exact ⟨rows, rfl, h⟩
        · refine absurd ?_ hO.nq
          unfold tblO
          rw [e]
          show (if ls.length ≤ 1000 then _ else _ : Out).2 = _
          rw [if_neg h]; rfl
    have eO : tblO w' ls d = bnd (takeO w' i32K) fun w => tableO w rows (rows.head?.getD []).length rows := by
      unfold tblO
      rw [er]
      exact if_pos lls
    rw [eO] at hO
    rw [insD] at hi
    obtain ⟨ia, y0, y1, y2, rfl, hia, t0, t1, t2⟩ := hi.three
    have v2 := t2.vint
    subst v2
    refine ⟨_, (pss_cons (ps_asg (pv 1) (pg_tup (by rfl) (pgs_cons (pg_name (i := 2) sc_Walker_branch_by_table.nd rfl (by first | exact Or.inl rfl | exact Or.inr rfl)) (pgs_cons (pg_name (i := 3) sc_Walker_branch_by_table.nd rfl (by first | exact Or.inl rfl | exact Or.inr rfl)) (pgs_cons (pg_name (i := 4) sc_Walker_branch_by_table.nd rfl (by first | exact Or.inl rfl | exact Or.inr rfl)) pgs_nil)))))
      (pss_cons (ps_setLc (i := 5) (own := [("label", 7)]) (g := gName 7) (tt := tYes) (by rfl) sc_Walker_branch_by_table.nd rfl rfl (sw_true rfl rfl rfl (by decide +kernel)) (pi_tup (pe_op op_catA (pv 3) (pe_tup (pa_cons (pv 4) pa_nil)))) (blkOk_by (own := [("label", 7)]) (N := ["self", "instruction", "_", "labels", "default", "rows", "kinds", "label"]) (sc := defScope s_Walker_branch_by_table) (by decide +kernel)) (fun _ _ _ _ _ => (pg_name (i := 7) sc_Walker_branch_by_table.nd rfl (by first | exact Or.inl rfl | exact Or.inr rfl))) (fun _ _ _ _ _ => pts_nil) (fun _ _ _ _ _ => (pe_mE c_Scope_label hr (by decide) passL (pe_fldB (pv 0) rfl) (pa_cons (pv 7) pa_nil))))
      (pss_cons (ps_expr (pe_mE c_KindStack_take hr (by decide) (passes_call (takes_of rfl rfl rfl rfl) (fun _ _ _ _ h => h)) (pe_fld (pv 0) rfl) (pa_cons (pe_tup (pa_cons pe_str pa_nil)) pa_nil)))
      (pss_one (ps_for (passes_of rfl) rfl (pi_list (pv 5)) (pg_name (i := 6) sc_Walker_branch_by_table.nd rfl (by first | exact Or.inl rfl | exact Or.inr rfl)) (pss_cons (ps_if (pt_cmpR op_ne (pe_callB call_len_seq (by rfl) T.m_len PySem.boot_len (pa_cons (pv 6) pa_nil)) (pe_callB call_len_seq (by rfl) T.m_len PySem.boot_len (pa_cons (pe_ix ix_list (pv 5) pe_int (fun _ _ => rfl)) pa_nil)) (by first | rfl | exact nomark _)) (pss_one (ps_raise rfl (takes_of rfl rfl rfl rfl) (pmk_oex T.e_CodeFault.T T.iC_CodeFault T.tI_CodeFault (in_CodeFault T) (hr.mono (by decide)) T.b_CodeFault .nil pass0 (by rfl) T.e_CodeFault.g (pa_cons pe_str pa_nil)))) pss_nil)
      (pss_one (ps_expr (pe_mE c_KindStack_need hr (by decide) (passes_call (takes_of rfl rfl rfl rfl) (fun _ _ _ _ h => h)) (pe_fld (pv 0) rfl) (pa_cons (pv 6) pa_nil)))))))))), ?_⟩
    walk_at "go"
    refine ⟨ia, _, rfl, hia, rfl, ?_⟩
    walk_at "go"
    intro p1 n1; generalize g1 : upd H p1 _ = H1; obtain ⟨s1, d1⟩ := newT (K := K) (ds := [natD d]) n1 g1 (.cons (.int _) .nil)
    refine cat_DA (t1.same s1) d1 (by rw [List.length_map]; show ls.length + 1 ≤ 1000000; omega) fun u H2 s2 hu => ?_
    obtain ⟨ta, ys, rfl, hta, hy⟩ := hu.vtup
    have ly := hy.len
    rw [List.length_append, List.length_map] at ly
    have ly : ys.length = ls.length + 1 := ly
    walk_at "go"
    refine ⟨⟨ys, hta⟩, fun D hD => ?_⟩
    refine lcD_tup (K := K) (fun i => (rows.take i).map tupS) hD hta (by omega) rfl (fun i x H3 hx s3 => ?_) (fun H3 zs s3 h1 h2 h3 => ?_)
    · have sH : Same H H3 := s1.trans (s2.trans s3)
      intro Y N hy' hn
      simp only [tYes, if_true]
      obtain ⟨dd, ed, hd⟩ := (hy.same s3).geti hx
      obtain ⟨n, en, hdn⟩ : ∃ n : Nat, (ls ++ [d])[i]? = some n ∧ natD n = dd := by
        rw [show ls.map natD ++ [natD d] = (ls ++ [d]).map natD by rw [List.map_append]; rfl, List.getElem?_map] at ed
        exact Option.map_eq_some_iff.mp ed
      subst hdn
      have vx := hd.vint
      subst vx
      obtain ⟨ks, ek, el⟩ := labelsOf_get er en
      have hw3 := hw.same sH
      obtain ⟨dx, x0, rs, x3, x4, x5, x6, x7, x8, hsc, _⟩ := hw3.rs
      refine ⟨_, rfl, A.wa, _, dw, _, _, rfl, sH _ _ hob, T.cl_Walker, T.n_Walker_scope, lk_Walker_scope, ?_⟩
      refine ⟨A.sc, dx, _, rfl, hsc, no_Scope_label, ?_⟩
      walk_at "go"
      refine ⟨A.sc, A.lb, c, w'.labels, n, rfl, hw3.scAt, fun dd ed v hv => ?_, fun en => ?_⟩
      · have ed : (labelOf w' n).map tupS = some dd := ed
        rw [el] at ed
        cases ed
        exact hy' v H3 _ (Same.refl _) hv (map_take_snoc _ ek)
      · have en : (labelOf w' n).map tupS = none := en
        rw [el] at en
        cases en
    · have lr := labelsOf_len er
      rw [List.length_append] at lr
      have lr : rows.length = ls.length + 1 := lr
      rw [ly, ← lr, List.take_length] at h2
      have sH : Same H H3 := s1.trans (s2.trans s3)
      have hw3 := hw.same sH
      obtain ⟨dk, hkob⟩ := hw3.stO
      walk_at "go"
      refine ⟨A.wa, _, dw, _, _, rfl, sH _ _ hob, T.cl_Walker, T.n_Walker_stack, lk_Walker_stack, ?_⟩
      refine ⟨A.ks, dk, _, rfl, hkob, no_KindStack_take, ?_⟩
      walk_at "go"
      intro p4 n4; generalize g4 : upd H3 p4 _ = H4; obtain ⟨s4, d4⟩ := newT (K := K) (ds := i32K.map kdD) n4 g4 (.cons (.str _) .nil)
      refine nil_go ?_
      refine take_W (hw3.same s4) (Kds.ref d4) (by decide) ((hO.mono (Same.sl (sH.trans s4))).seq fun w5 H5 e5 s5 hw5 hO5 => ?_)
      have nD : D ∉ A.L := fun z => by
        obtain ⟨xs, e⟩ := hw.ls D z
        rw [(s1.trans s2) _ _ e] at hD
        cases hD
      have kD : ∀ H', SL A.L H5 H' → H' D = some (.lst zs) := fun H' s => s _ _ nD nl_lst (s5 _ _ nD nl_lst (s4 _ _ h1))
      have dz : DtA K H5 zs (rows.map tupS) := (h2.same s4).ti ((hw3.same s4).ti s5)
      have lz := dz.len
      rw [List.length_map] at lz
      obtain ⟨r0, er0⟩ : ∃ r0, rows[0]? = some r0 := ⟨_, List.getElem?_eq_getElem (by omega)⟩
      have eh : rows.head?.getD [] = r0 := by rw [List.head?_eq_getElem?, er0]; rfl
      rw [eh] at hO5
      refine ⟨_, rfl, D, rfl, ⟨_, SqL.of (kD H5 (SL.refl _))⟩, for_listD (xs := zs) (fun i σ H' => ∃ o6 o7, σ = [some (.ref A.wa), some (.ref ia), some y0, some y1, some (.int (d : Int)), some (.ref D), o6, o7] ∧ SL A.L H5 H' ∧ WkAt K cs H' A c w5 ∧ WOut K cs A c H' Q E (tableO w5 rows r0.length (rows.drop i)))
        ⟨_, _, rfl, SL.refl _, hw5, hO5⟩ (fun i σ H' _ h => by obtain ⟨_, _, _, s, _⟩ := h; exact SqL.of (kD H' s)) ?_ ?_⟩
      · rintro i x _ H6 hx ⟨o6, o7, rfl, s6, hw6, hO6⟩
        have dz6 := dz.ti (hw5.ti s6)
        obtain ⟨dd, ed, hd⟩ := dz6.geti hx
        rw [List.getElem?_map] at ed
        obtain ⟨ks, ek, rfl⟩ := Option.map_eq_some_iff.mp ed
        obtain ⟨v0, ev0, hv0⟩ := dz6.get (k := 0) (by rw [List.getElem?_map, er0]; rfl)
        have hi : i < rows.length := (List.getElem?_eq_some_iff.mp ek).1
        rw [List.drop_eq_getElem_cons hi, show rows[i] = ks from by have := ek; rw [List.getElem?_eq_getElem hi] at this; exact Option.some.inj this, tableO] at hO6
        obtain ⟨ka, rfl, hka⟩ := hd.sqS
        obtain ⟨ra, rfl, hra⟩ := hv0.sqS
        walk_at "go"
        refine ⟨D, _, _, _, rfl, rfl, SqL.of (kD H6 s6), atI_nat ev0, ?_⟩
        walk_at "go"
        rw [List.length_map, List.length_map]
        by_cases ck : ks.length = r0.length
        · rw [if_pos ck] at hO6
          refine ifNe (by omega) ?_
          obtain ⟨dw6, hob6⟩ := hw6.ob
          obtain ⟨dk6, hkob6⟩ := hw6.stO
          refine ⟨_, rfl, A.wa, _, dw6, _, _, rfl, hob6, T.cl_Walker, T.n_Walker_stack, lk_Walker_stack, ?_⟩
          refine ⟨A.ks, dk6, _, rfl, hkob6, no_KindStack_need, ?_⟩
          walk_at "go"
          refine nil_go ?_
          have b5 := hw.b5 ks (labelsOf_mem er (List.mem_of_getElem? ek))
          refine need_W hw6 (Kds.refS hd) (by unfold oSome; rw [List.length_map]; omega) (hO6.seq fun w7 H7 e7 s7 hw7 hO7 => ?_)
          have e57 := needO_same e7
          subst e57
          exact ⟨_, _, rfl, s6.trans s7, hw7, hO7⟩
        · rw [if_neg ck] at hO6
          refine ifNeN (by omega) ?_
          walk_at "go"
          exact (fly1 (K := K) fun d Hf s2 e => hO6.flt hw6 (w' := w5) (r := kmm) rfl rfl d Hf s2 e).2
      · rintro _ H6 ⟨o6, o7, rfl, s6, hw6, hO6⟩
        rw [lz, List.drop_length, tableO] at hO6
        exact hO6.end hw6 rfl
theorem c_Walker_check_catch (D : DefM K (Cs.C_Walker cs) "check_catch" "Walker.check_catch" s_Walker_check_catch ["self", "tag", "label"]) (T : Tp w K mg cs) (c_Scope_label : CalM P w K mg base (L2.CX P w) (Cs.C_Scope cs) 3 "label" (sp_Scope_label K cs)) (c_Scope_tag : CalM P w K mg base (L2.CX P w) (Cs.C_Scope cs) 3 "tag" (sp_Scope_tag K cs)) : CalM P w K mg base (L2.CX P w) (Cs.C_Walker cs) 4 "check_catch" (sp_Walker_check_catch K cs) := by
  refine D.okX sc_Walker_check_catch T.cl_Walker (fun vs H Q E h => ?_) (fun f cdv A outer s H vs Q E hr h => ?_)
  · obtain ⟨A, c, w', tv, t, l, rfl, _⟩ := h; rfl
  · obtain ⟨A, c, w', tv, t, l, rfl, ht, hw, hO⟩ := h
    obtain ⟨dw, hob⟩ := hw.ob
    obtain ⟨dx, x0, rs, x3, x4, x5, x6, x7, x8, hsc, _⟩ := hw.rs
    refine ⟨_, (pss_cons (ps_set (i := 3) sc_Walker_check_catch.nd rfl (by first | exact Or.inl rfl | exact Or.inr rfl) (pe_mE c_Scope_label hr (by decide) (passes_call (takes_of rfl rfl rfl rfl) (fun _ _ _ _ h => h)) (pe_fld (pv 0) rfl) (pa_cons (pv 2) pa_nil)))
      (pss_cons (ps_set (i := 4) sc_Walker_check_catch.nd rfl (by first | exact Or.inl rfl | exact Or.inr rfl) (pe_tup pa_nil))
      (C8.pss_cut (ps_if (pt_cmpR op_notN (pv 1) pe_non (by first | rfl | exact nomark _)) (pss_one (ps_set (i := 4) sc_Walker_check_catch.nd rfl (by first | exact Or.inl rfl | exact Or.inr rfl) (pe_mE c_Scope_tag hr (by decide) (passes_call (takes_of rfl rfl rfl rfl) (fun _ _ _ _ h => h)) (pe_fld (pv 0) rfl) (pa_cons (pv 1) pa_nil)))) pss_nil)
      (pss_one (ps_if (pt_cmpR (op_neD (hu64 hr)) (pv 3) (pv 4) (by first | rfl | exact nomark _)) (pss_one (ps_raise rfl (takes_of rfl rfl rfl rfl) (pmk_oex T.e_CodeFault.T T.iC_CodeFault T.tI_CodeFault (in_CodeFault T) (hr.mono (by decide)) T.b_CodeFault .nil pass0 (by rfl) T.e_CodeFault.g (pa_cons pe_str pa_nil)))) pss_nil))))), ?_⟩
    refine ⟨_, rfl, A.wa, _, dw, _, _, rfl, hob, T.cl_Walker, T.n_Walker_scope, lk_Walker_scope, ?_⟩
    refine ⟨A.sc, dx, _, rfl, hsc, no_Scope_label, ?_⟩
    walk_at "go"
    refine ⟨A.sc, A.lb, c, w'.labels, l, rfl, hw.scAt, fun dd ed v hv => ?_, fun en => ?_⟩
    rotate_left
    · have en : (labelOf w' l).map tupS = none := en
      cases e : labelOf w' l with
      | some ks => rw [e] at en; cases en
      | none => exact hO.flt hw (w' := w') (by unfold catch1; rw [e]; rfl) rfl
    have ed : (labelOf w' l).map tupS = some dd := ed
    obtain ⟨ks, el, rfl⟩ := Option.map_eq_some_iff.mp ed
    walk_at "go"
    intro p1 n1; generalize g1 : upd H p1 _ = H1; obtain ⟨s1, d1⟩ := newT (K := K) (ds := []) n1 g1 .nil
    have hv1 := hv.same s1
    have hw1 := hw.same s1
    refine ⟨fun σ G => Same H1 G ∧ ∃ (cv : V) (kc : List Str), tagT c t = some kc ∧ Dt K G cv (tupS kc) ∧ σ = [some (.ref A.wa), some tv, some (.int (l : Int)), some v, some cv], ?_, ?_⟩
    · cases t with
      | none =>
        have v0 := ht.vnon
        subst v0
        walk_at "go"
        exact ⟨Same.refl _, _, [], rfl, d1, rfl⟩
      | some t =>
        have v0 := ht.vint
        subst v0
        walk_at "go"
        refine ⟨A.wa, _, dw, _, _, rfl, s1 _ _ hob, T.cl_Walker, T.n_Walker_scope, lk_Walker_scope, ?_⟩
        refine ⟨A.sc, dx, _, rfl, s1 _ _ hsc, no_Scope_tag, ?_⟩
        walk_at "go"
        refine ⟨A.sc, A.lb, c, w'.labels, t, rfl, hw1.scAt, fun dd ed v hv => ?_, fun en => ?_⟩
        rotate_left
        · have en : (tagOf c t).map tupS = none := en
          have en' : tagOf c t = none := by
            cases e : tagOf c t with
            | some ks => rw [e] at en; cases en
            | none => rfl
          exact (hO.mono (Same.sl s1)).flt hw1 (w' := w') (by unfold catch1; rw [el]; show (match tagOf c t with | none => _ | some _ => _ : Out) = _; rw [en']; rfl) rfl
        have ed : (tagOf c t).map tupS = some dd := ed
        obtain ⟨kc, et, rfl⟩ := Option.map_eq_some_iff.mp ed
        walk_at "go"
        exact ⟨Same.refl _, _, kc, et, hv, rfl⟩
    rintro _ G ⟨sG, cv, kc, et, hc, rfl⟩
    have hwG := hw1.same sG
    have hOG := (hO.mono (Same.sl s1)).mono (Same.sl sG)
    have ok : (kdsOk ks && kdsOk kc) = true := by
      by_cases h : (kdsOk ks && kdsOk kc) = true
      · exact h
      · refine absurd ?_ hO.nq
        unfold catch1
        rw [el, et]
        show (if (kdsOk ks && kdsOk kc) = true then _ else _ : Out).2 = _
        rw [if_neg h]; rfl
    have eO : catch1 c w' t l (ok1 w') = if ks = kc then ok1 w' else er1 w' kmm := by
      unfold catch1
      rw [el, et]
      show (if (kdsOk ks && kdsOk kc) = true then _ else _ : Out) = _
      rw [if_pos ok]
    rw [eO] at hOG
    rw [Bool.and_eq_true] at ok
    walk_at "go"
    refine ne_D (hv1.same sG) hc (shaped_kds ok.1) (shaped_kds ok.2) ?_
    rw [eqv_kds]
    by_cases ek : ks = kc
    · rw [if_pos ek] at hOG
      rw [decide_eq_true ek]
      walk_at "go"
      exact hOG.end hwG rfl
    · rw [if_neg ek] at hOG
      rw [decide_eq_false ek]
      walk_at "go"
      exact (fly1 (K := K) fun d Hf s2 e => hOG.flt hwG (w' := w') (r := kmm) rfl rfl d Hf s2 e).2
theorem c_Walker_walk_block_at (D : DefM K (Cs.C_Walker cs) "walk_block" "Walker.walk_block" s_Walker_walk_block ["self", "instruction"]) (T : Tp w K mg cs) (c_Scope_shape : CalM P w K mg base (L2.CX P w) (Cs.C_Scope cs) 3 "shape" (sp_Scope_shape K cs)) (c_KindStack_take : CalM P w K mg base (L2.CX P w) (Cs.C_KindStack cs) 4 "take" (sp_KindStack_take K cs)) (c_bodies_of : Cal P w K mg base CX0 1 "bodies_of" (sp_bodies_of K cs)) (c_KindStack_put : CalM P w K mg base CX0 (Cs.C_KindStack cs) 1 "put" (sp_KindStack_put K cs)) (c_Walker_check_catch : CalM P w K mg base (L2.CX P w) (Cs.C_Walker cs) 4 "check_catch" (sp_Walker_check_catch K cs)) (d : Nat) (c_Walker_walk_body : CalM P w K mg base (L2.CX P w) (Cs.C_Walker cs) (6 + 3 * d) "walk_body" (sp_Walker_walk_body_at K cs d)) : CalM P w K mg base (L2.CX P w) (Cs.C_Walker cs) (6 + 3 * d + 1) "walk_block" (sp_Walker_walk_block_at K cs d) := by
  refine D.okX sc_Walker_walk_block T.cl_Walker (fun vs H Q E h => ?_) (fun f cdv A outer s H vs Q E hr h => ?_)
  · obtain ⟨A, c, w', iv, i, nm, sh, cc, rfl, _⟩ := h; rfl
  · obtain ⟨A, c, w', iv, i, nm, sh, cc, rfl, hi, hb, hw, hO⟩ := h
    obtain ⟨dw, hob⟩ := hw.ob
    obtain ⟨dx, x0, rs0, x3, x4, x5, x6, x7, x8, hsc, _⟩ := hw.rs
    obtain ⟨ds, eds, etr, ecc⟩ := blkOf_data hb
    have hi2 := hi
    rw [eds] at hi2
    have so : shpOkB sh = true := by
      by_cases h : shpOkB sh = true
      · exact h
      · exact absurd (by unfold blockO; rw [if_neg h]; rfl) hO.nq
    refine ⟨_, (pss_cons (ps_set (i := 2) sc_Walker_walk_block.nd rfl (by first | exact Or.inl rfl | exact Or.inr rfl) (pe_ix ix_tup (pv 1) pe_int (fun _ _ => rfl)))
      (pss_cons (ps_asg (pe_mE c_Scope_shape hr (by omega) (passes_call (takes_of rfl rfl rfl rfl) (fun _ _ _ _ h => h)) (pe_fld (pv 0) rfl) (pa_cons (pe_ix ix_tup (pv 1) pe_int (fun _ _ => rfl)) pa_nil)) (pg_tup (by rfl) (pgs_cons (pg_name (i := 3) sc_Walker_walk_block.nd rfl (by first | exact Or.inl rfl | exact Or.inr rfl)) (pgs_cons (pg_name (i := 4) sc_Walker_walk_block.nd rfl (by first | exact Or.inl rfl | exact Or.inr rfl)) pgs_nil))))
      (C8.pss_cut (ps_if (pt_cmpR op_eq (pv 2) pe_str (by first | rfl | exact nomark _)) (pss_one (ps_expr (pe_mE c_KindStack_take hr (by omega) (passes_call (takes_of rfl rfl rfl rfl) (fun _ _ _ _ h => h)) (pe_fld (pv 0) rfl) (pa_cons (pe_tup (pa_cons pe_str pa_nil)) pa_nil)))) pss_nil)
      (pss_cons (ps_expr (pe_mE c_KindStack_take hr (by omega) (passes_call (takes_of rfl rfl rfl rfl) (fun _ _ _ _ h => h)) (pe_fld (pv 0) rfl) (pa_cons (pv 3) pa_nil)))
      (C8.pss_cut (ps_if (pt_cmpR op_eq (pv 2) pe_str (by first | rfl | exact nomark _)) (pss_one (ps_for (passes_of rfl) rfl (pi_tup (pe_ix ix_tup (pv 1) pe_int (fun _ _ => rfl))) (pg_tup (by rfl) (pgs_cons (pg_name (i := 7) sc_Walker_walk_block.nd rfl (by first | exact Or.inl rfl | exact Or.inr rfl)) (pgs_cons (pg_name (i := 8) sc_Walker_walk_block.nd rfl (by first | exact Or.inl rfl | exact Or.inr rfl)) pgs_nil))) (pss_one (ps_expr (pe_mE c_Walker_check_catch hr (by omega) (passes_call (takes_of rfl rfl rfl rfl) (fun _ _ _ _ h => h)) (pv 0) (pa_cons (pv 7) (pa_cons (pv 8) pa_nil))))))) pss_nil)
      (pss_cons (ps_set (i := 5) sc_Walker_walk_block.nd rfl (by first | exact Or.inl rfl | exact Or.inr rfl) (pv 4))
      (C8.pss_cut (ps_if (pt_cmpR op_eq (pv 2) pe_str (by first | rfl | exact nomark _)) (pss_one (ps_set (i := 5) sc_Walker_walk_block.nd rfl (by first | exact Or.inl rfl | exact Or.inr rfl) (pv 3))) pss_nil)
      (pss_cons (ps_for (passes_of rfl) rfl (pi_tup (pe_c c_bodies_of hr (by omega) (by rfl) (pa_cons (pv 1) pa_nil))) (pg_name (i := 6) sc_Walker_walk_block.nd rfl (by first | exact Or.inl rfl | exact Or.inr rfl)) (pss_one (ps_expr (pe_mE c_Walker_walk_body hr (by omega) (passes_call (takes_of rfl rfl rfl rfl) (fun _ _ _ _ h => h)) (pv 0) (pa_cons (pv 6) (pa_cons (pv 3) (pa_cons (pv 4) (pa_cons (pv 5) pa_nil))))))))
      (pss_one (ps_expr (pe_mE c_KindStack_put hr (by omega) pass0 (pe_fld (pv 0) rfl) (pa_cons (pv 4) pa_nil)))))))))))), ?_⟩
    walk_at "go"
    refine ix_D (k := 0) hi2 rfl fun v hv => ?_
    have v0 := hv.vstr
    subst v0
    walk_at "go"
    refine ⟨A.wa, _, dw, _, _, rfl, hob, T.cl_Walker, T.n_Walker_scope, lk_Walker_scope, ?_⟩
    refine ⟨A.sc, dx, _, rfl, hsc, no_Scope_shape, ?_⟩
    walk_at "go"
    refine ix_D (k := 1) hi2 rfl fun v hv => ?_
    have v0 := shp_v hv
    subst v0
    walk_at "go"
    refine ⟨A.sc, A.lb, c, w'.labels, sh, rfl, hw.scAt, fun k e => ?_, fun s es v H1 s1 hv => ?_, fun en => ?_⟩
    · subst e
      unfold shpOkB at so
      rw [Bool.or_eq_true] at so
      exact so.imp of_decide_eq_true of_decide_eq_true
    rotate_left
    · exact hO.flt hw (w' := w') (by unfold blockO; rw [if_pos so, en]; rfl) rfl
    obtain ⟨ps, rs⟩ := s
    obtain ⟨lps, lrs⟩ := shape_len hw.cx es
    have eO : blockO (bodyO d c) c w' nm sh cc (bodiesI i) = bnd (if nm = "if" then takeO w' i32K else ok1 w') fun w => bnd (takeO w (oSome ps)) fun w => bnd (catchO c w cc) fun w => bnd (bodiesO (bodyO d c) ps rs (if nm = "loop" then ps else rs) w (bodiesI i)) fun w => putO w (oSome rs) := by
      unfold blockO
      rw [if_pos so, es]
    rw [eO] at hO
    have hw1 := hw.same s1
    have hO1 := hO.mono (Same.sl s1)
    obtain ⟨sa, pa, ra, rfl, hsa, hp, hr'⟩ := hv.two
    walk_at "go"
    refine ⟨sa, _, rfl, hsa, rfl, ?_⟩
    refine ⟨_, _, rfl, _, _, rfl, rfl, ?_⟩
    obtain ⟨pt, rfl, _⟩ := hp.sqS
    obtain ⟨rt, rfl, _⟩ := hr'.sqS
    have hi1 := hi.same s1
    have hi21 := hi2.same s1
    clear eO hO so hv hsa
    refine ⟨fun σ G => ∃ w2, SL A.L H1 G ∧ WkAt K cs G A c w2 ∧ WOut K cs A c G Q E (bnd (takeO w2 (oSome ps)) fun w => bnd (catchO c w cc) fun w => bnd (bodiesO (bodyO d c) ps rs (if nm = "loop" then ps else rs) w (bodiesI i)) fun w => putO w (oSome rs)) ∧ ∃ o5 o6 o7 o8, σ = [some (.ref A.wa), some iv, some (.str nm), some (.ref pt), some (.ref rt), o5, o6, o7, o8], ?_, ?_⟩
    · walk_at "go"
      by_cases ei : nm = "if"
      · refine ifS ei ?_
        rw [if_pos ei] at hO1
        walk_at "go"
        obtain ⟨dw2, hob2⟩ := hw1.ob
        obtain ⟨dk2, hkob2⟩ := hw1.stO
        refine ⟨A.wa, _, dw2, _, _, rfl, hob2, T.cl_Walker, T.n_Walker_stack, lk_Walker_stack, ?_⟩
        refine ⟨A.ks, dk2, _, rfl, hkob2, no_KindStack_take, ?_⟩
        walk_at "go"
        intro p1 n1; generalize g1 : upd H1 p1 _ = H2; obtain ⟨s2, d2⟩ := newT (K := K) (ds := i32K.map kdD) n1 g1 (.cons (.str _) .nil)
        refine nil_go ?_
        refine take_W (hw1.same s2) (Kds.ref d2) (by decide) ((hO1.mono (Same.sl s2)).seq fun w3 H3 _ s3 hw3 hO3 => ?_)
        exact ⟨w3, (Same.sl s2).trans s3, hw3, hO3, _, _, _, _, rfl⟩
      · refine ifSN ei ?_
        rw [if_neg ei] at hO1
        exact ⟨w', SL.refl _, hw1, hO1, _, _, _, _, rfl⟩
    rintro _ G ⟨w2, sG, hw2, hO2, o5, o6, o7, o8, rfl⟩
    obtain ⟨dw2, hob2⟩ := hw2.ob
    obtain ⟨dk2, hkob2⟩ := hw2.stO
    walk_at "go"
    refine ⟨A.wa, _, dw2, _, _, rfl, hob2, T.cl_Walker, T.n_Walker_stack, lk_Walker_stack, ?_⟩
    refine ⟨A.ks, dk2, _, rfl, hkob2, no_KindStack_take, ?_⟩
    walk_at "go"
    refine nil_go ?_
    refine take_W hw2 (Kds.refS (hp.ti (hw1.ti sG))) (by unfold oSome; rw [List.length_map]; have : ps.length ≤ 1000 := lps; omega) (hO2.seq fun w3 G3 _ s3 hw3 hO3 => ?_)
    have sG3 := sG.trans s3
    clear hO2 hw2 s3 sG hkob2 hob2
    refine ⟨fun σ G => ∃ w2, SL A.L H1 G ∧ WkAt K cs G A c w2 ∧ WOut K cs A c G Q E ((fun w => bnd (bodiesO (bodyO d c) ps rs (if nm = "loop" then ps else rs) w (bodiesI i)) fun w => putO w (oSome rs)) w2) ∧ ∃ o5 o6 o7 o8, σ = [some (.ref A.wa), some iv, some (.str nm), some (.ref pt), some (.ref rt), o5, o6, o7, o8], ?_, ?_⟩
    · walk_at "go"
      by_cases ei : nm = "try_table"
      · refine ifS ei ?_
        obtain ⟨b0, eb0⟩ := etr ei
        subst eb0
        walk_at "go"
        refine tC_go ?_
        refine ix_D (k := 2) (hi21.ti (hw1.ti sG3)) rfl fun v hv => ?_
        obtain ⟨ca, xs, rfl, hca, hxs⟩ := hv.vtup
        have lx := hxs.len
        rw [List.length_map] at lx
        refine ⟨ca, rfl, ⟨xs, hca⟩, for_tupE (xs := xs) (fun j σ G => ∃ w2, SL A.L G3 G ∧ WkAt K cs G A c w2 ∧ WOut K cs A c G Q E (bnd (catchO c w2 (cc.drop j)) fun w => bnd (bodiesO (bodyO d c) ps rs (if nm = "loop" then ps else rs) w (bodiesI i)) fun w => putO w (oSome rs)) ∧ ∃ o5 o6 o7 o8, σ = [some (.ref A.wa), some iv, some (.str nm), some (.ref pt), some (.ref rt), o5, o6, o7, o8])
          ⟨w3, SL.refl _, hw3, hO3, _, _, _, _, rfl⟩ (fun j σ G _ h => by obtain ⟨_, s, _⟩ := h; exact hw3.ti s _ _ hca) ?_ ?_⟩
        · rintro j x _ G4 hx ⟨w4, s4, hw4, hO4, o5, o6, o7, o8, rfl⟩
          obtain ⟨dd, ed, hd⟩ := (hxs.ti (hw3.ti s4)).geti hx
          rw [List.getElem?_map] at ed
          obtain ⟨r, er, rfl⟩ := Option.map_eq_some_iff.mp ed
          have hj : j < cc.length := (List.getElem?_eq_some_iff.mp er).1
          rw [List.drop_eq_getElem_cons hj, show cc[j] = r from by have := er; rw [List.getElem?_eq_getElem hj] at this; exact Option.some.inj this, catchO, catch1_bnd, bnd_assoc] at hO4
          obtain ⟨xa, tv, lv, rfl, hxa, ht, hl⟩ := hd.two
          have v0 := hl.vint
          subst v0
          refine ⟨xa, _, rfl, hxa, rfl, ?_⟩
          refine ⟨_, _, rfl, _, _, rfl, rfl, ?_⟩
          obtain ⟨dw4, hob4⟩ := hw4.ob
          walk_at "go"
          refine ⟨A.wa, dw4, _, rfl, hob4, no_Walker_check_catch, ?_⟩
          walk_at "go"
          refine ⟨A, c, w4, tv, r.1, r.2, rfl, ht, hw4, hO4.seq fun w5 G5 e5 s5 hw5 hO5 => ?_⟩
          have e45 := catch1_same e5
          subst e45
          exact ⟨w4, s4.trans s5, hw5, hO5, _, _, _, _, rfl⟩
        · rintro _ G4 ⟨w4, s4, hw4, hO4, o5, o6, o7, o8, rfl⟩
          rw [lx, List.drop_length, catchO] at hO4
          exact ⟨w4, sG3.trans s4, hw4, hO4, _, _, _, _, rfl⟩
      · refine ifSN ei ?_
        rw [ecc ei] at hO3
        exact ⟨w3, sG3, hw3, hO3, _, _, _, _, rfl⟩
    clear hO3 hw3
    rintro _ G ⟨w2, sG, hw2, hO2, o5, o6, o7, o8, rfl⟩
    have hiG := hi1.ti (hw1.ti sG)
    have hpG := hp.ti (hw1.ti sG)
    have hrG := hr'.ti (hw1.ti sG)
    refine ⟨_, rfl, ?_⟩
    refine ⟨fun σ G' => G = G' ∧ ∃ kt, Dt K G (.ref kt) (tupS (if nm = "loop" then ps else rs)) ∧ σ = [some (.ref A.wa), some iv, some (.str nm), some (.ref pt), some (.ref rt), some (.ref kt), o6, o7, o8], ?_, ?_⟩
    · walk_at "go"
      by_cases ei : nm = "loop"
      · refine ifS ei ?_
        walk_at "go"
        exact ⟨pt, by rw [if_pos ei]; exact hpG, rfl⟩
      · refine ifSN ei ?_
        exact ⟨rfl, rt, by rw [if_neg ei]; exact hrG, rfl⟩
    rintro _ _ ⟨rfl, kt, hkG, rfl⟩
    walk_at "go"
    refine ⟨iv, i, rfl, hiG, by rw [hb]; rfl, fun v G5 s5 hv => ?_⟩
    obtain ⟨ba, xs, rfl, hba, hxs⟩ := hv.vtup
    have lx := hxs.len
    rw [List.length_map] at lx
    have hw5 := hw2.same s5
    refine ⟨ba, rfl, ⟨xs, hba⟩, for_tupE (xs := xs) (fun j σ G' => ∃ w4, SL A.L G5 G' ∧ WkAt K cs G' A c w4 ∧ WOut K cs A c G' Q E (bnd (bodiesO (bodyO d c) ps rs (if nm = "loop" then ps else rs) w4 ((bodiesI i).drop j)) fun w => putO w (oSome rs)) ∧ ∃ o6 o7 o8, σ = [some (.ref A.wa), some iv, some (.str nm), some (.ref pt), some (.ref rt), some (.ref kt), o6, o7, o8])
      ⟨w2, SL.refl _, hw5, hO2.mono (Same.sl s5), _, _, _, rfl⟩ (fun j σ G _ h => by obtain ⟨_, s, _⟩ := h; exact hw5.ti s _ _ hba) ?_ ?_⟩
    · rintro j x _ G4 hx ⟨w4, s4, hw4, hO4, o6, o7, o8, rfl⟩
      have t4 := hw5.ti s4
      obtain ⟨dd, ed, hd⟩ := (hxs.ti t4).geti hx
      rw [List.getElem?_map] at ed
      obtain ⟨b, er, rfl⟩ := Option.map_eq_some_iff.mp ed
      have hj : j < (bodiesI i).length := (List.getElem?_eq_some_iff.mp er).1
      rw [List.drop_eq_getElem_cons hj, show (bodiesI i)[j] = b from by have := er; rw [List.getElem?_eq_getElem hj] at this; exact Option.some.inj this, bodiesO, bnd_assoc] at hO4
      obtain ⟨dw4, hob4⟩ := hw4.ob
      walk_at "go"
      refine ⟨A.wa, dw4, _, rfl, hob4, no_Walker_walk_body, ?_⟩
      walk_at "go"
      refine nil_go ?_
      refine body_at hd ((hpG.same s5).ti t4) ((hrG.same s5).ti t4) ((hkG.same s5).ti t4) hw4 (hO4.seq fun w6 G6 _ s6 hw6 hO6 => ?_)
      exact ⟨w6, s4.trans s6, hw6, hO6, _, _, _, rfl⟩
    · rintro _ G4 ⟨w4, s4, hw4, hO4, o6, o7, o8, rfl⟩
      rw [lx, List.drop_length, bodiesO] at hO4
      obtain ⟨dw4, hob4⟩ := hw4.ob
      obtain ⟨dk4, hkob4⟩ := hw4.stO
      walk_at "go"
      refine ⟨A.wa, _, dw4, _, _, rfl, hob4, T.cl_Walker, T.n_Walker_stack, lk_Walker_stack, ?_⟩
      refine ⟨A.ks, dk4, _, rfl, hkob4, no_KindStack_put, ?_⟩
      walk_at "go"
      refine nil_go ?_
      have hO5 : WOut K cs A c G4 Q E (putO w4 (oSome rs)) := hO4
      exact put_W (E := E) (Q := Q) hw4 (Kds.refS ((hrG.same s5).ti (hw5.ti s4))) hO5
theorem c_Walker_walk_instruction_at (D : DefM K (Cs.C_Walker cs) "walk_instruction" "Walker.walk_instruction" s_Walker_walk_instruction ["self", "instruction"]) (T : Tp w K mg cs) (c_KindStack_loosen : CalM P w K mg base CX0 (Cs.C_KindStack cs) 1 "loosen" (sp_KindStack_loosen K cs)) (c_Walker_choose : CalM P w K mg base (L2.CX P w) (Cs.C_Walker cs) 5 "choose" (sp_Walker_choose K cs)) (c_Walker_branch_by_table : CalM P w K mg base (L2.CX P w) (Cs.C_Walker cs) 5 "branch_by_table" (sp_Walker_branch_by_table K cs)) (c_effect_of : Cal P w K mg base (L2.CX P w) 5 "effect_of" (sp_effect_of K cs)) (c_KindStack_take : CalM P w K mg base (L2.CX P w) (Cs.C_KindStack cs) 4 "take" (sp_KindStack_take K cs)) (c_KindStack_put : CalM P w K mg base CX0 (Cs.C_KindStack cs) 1 "put" (sp_KindStack_put K cs)) (d : Nat) (c_Walker_walk_block : CalM P w K mg base (L2.CX P w) (Cs.C_Walker cs) (6 + 3 * d + 1) "walk_block" (sp_Walker_walk_block_at K cs d)) : CalM P w K mg base (L2.CX P w) (Cs.C_Walker cs) (6 + 3 * d + 2) "walk_instruction" (sp_Walker_walk_instruction_at K cs d) := by
  refine D.okX sc_Walker_walk_instruction T.cl_Walker (fun vs H Q E h => ?_) (fun f cdv A outer s H vs Q E hr h => ?_)
  · obtain ⟨A, c, w', iv, i, rfl, _⟩ := h; rfl
  · obtain ⟨A, c, w', iv, i, rfl, hi, hw, hO⟩ := h
    obtain ⟨dw, hob⟩ := hw.ob
    obtain ⟨dk, hkob⟩ := hw.stO
    obtain ⟨dx, x0, rs0, x3, x4, x5, x6, x7, x8, hsc, _⟩ := hw.rs
    obtain ⟨ds, eds⟩ := insD_name i
    have hi2 := hi
    rw [eds] at hi2
    have hp := ins_P hO.nq
    refine ⟨_, (pss_cons (ps_set (i := 2) sc_Walker_walk_instruction.nd rfl (by first | exact Or.inl rfl | exact Or.inr rfl) (pe_ix ix_tup (pv 1) pe_int (fun _ _ => rfl)))
      (C8.pss_cut (ps_if (pt_cmpR op_in_seq (pv 2) (pe_glob (v := .ref cs.t_BLOCKS) (by rfl) T.g_BLOCKS rfl) (by first | rfl | exact nomark _)) (pss_one (ps_expr (pe_mE c_Walker_walk_block hr (by omega) (passes_call (takes_of rfl rfl rfl rfl) (fun _ _ _ _ h => h)) (pv 0) (pa_cons (pv 1) pa_nil)))) (pss_one (ps_if (pt_cmpR op_eq (pv 2) pe_str (by first | rfl | exact nomark _)) (pss_one (ps_expr (pe_mE0 c_Walker_choose hr (by omega) (passes_call (takes_of rfl rfl rfl rfl) (fun _ _ _ _ h => h)) (pv 0)))) (pss_one (ps_if (pt_cmpR op_eq (pv 2) pe_str (by first | rfl | exact nomark _)) (pss_one (ps_expr (pe_mE c_Walker_branch_by_table hr (by omega) (passes_call (takes_of rfl rfl rfl rfl) (fun _ _ _ _ h => h)) (pv 0) (pa_cons (pv 1) pa_nil)))) (pss_cons (ps_asg (pe_cE c_effect_of hr (by omega) (passes_call (takes_of rfl rfl rfl rfl) (fun _ _ _ _ h => h)) (by rfl) (pa_cons (pe_fld (pv 0) rfl) (pa_cons (pv 1) pa_nil))) (pg_tup (by rfl) (pgs_cons (pg_name (i := 3) sc_Walker_walk_instruction.nd rfl (by first | exact Or.inl rfl | exact Or.inr rfl)) (pgs_cons (pg_name (i := 4) sc_Walker_walk_instruction.nd rfl (by first | exact Or.inl rfl | exact Or.inr rfl)) pgs_nil))))
      (pss_cons (ps_expr (pe_mE c_KindStack_take hr (by omega) (passes_call (takes_of rfl rfl rfl rfl) (fun _ _ _ _ h => h)) (pe_fld (pv 0) rfl) (pa_cons (pv 3) pa_nil)))
      (pss_one (ps_expr (pe_mE c_KindStack_put hr (by omega) pass0 (pe_fld (pv 0) rfl) (pa_cons (pv 4) pa_nil)))))))))))
      (pss_one (ps_if (pt_cmpR op_in_seq (pv 2) (pe_glob (v := .ref cs.t_LOOSENING) (by rfl) T.g_LOOSENING rfl) (by first | rfl | exact nomark _)) (pss_one (ps_expr (pe_mE0 c_KindStack_loosen hr (by omega) pass0 (pe_fld (pv 0) rfl)))) pss_nil)))), ?_⟩
    walk_at "go"
    refine ix_D (k := 0) hi2 rfl fun v hv => ?_
    have v0 := hv.vstr
    subst v0
    refine ⟨fun σ G => ∃ w2, WkAt K cs G A c w2 ∧ WOut K cs A c G Q E (lo (nameI i) w2) ∧ ∃ o3 o4, σ = [some (.ref A.wa), some iv, some (.str (nameI i)), o3, o4], ?_, ?_⟩
    · walk_at "go"
      refine ⟨cs.t_BLOCKS, _, rfl, .inr T.d_BLOCKS.sq, rfl, rfl, ?_⟩
      cases hp with
      | block sh cc h hl hin e =>
        rw [e, ← lo_no hl (blockO _ _ _ _ _ _ _)] at hO
        rw [hin]
        walk_at "go"
        refine ⟨A.wa, dw, _, rfl, hob, no_Walker_walk_block, ?_⟩
        walk_at "go"
        refine ⟨A, c, w', iv, i, _, sh, cc, rfl, hi, h, hw, hO.seq fun w2 G2 _ s2 hw2 hO2 => ?_⟩
        exact ⟨w2, hw2, hO2, _, _, rfl⟩
      | select h e =>
        have hin : inV (.str (nameI i)) (v_BLOCKS.map V.str) = false := by rw [h]; decide +kernel
        have hl : loosing (nameI i) = false := by rw [h]; decide +kernel
        rw [e, ← lo_no hl (chooseO _)] at hO
        rw [hin]
        walk_at "go"
        refine ifS h ?_
        walk_at "go"
        refine ⟨A.wa, dw, _, rfl, hob, no_Walker_choose, ?_⟩
        walk_at "go"
        refine ⟨A, c, w', rfl, hw, hO.seq fun w2 G2 _ s2 hw2 hO2 => ?_⟩
        exact ⟨w2, hw2, hO2, _, _, rfl⟩
      | table ls d h e =>
        subst h
        have hin : inV (.str (nameI (.brt ls d))) (v_BLOCKS.map V.str) = false := by show inV (.str "br_table") (v_BLOCKS.map V.str) = false; decide +kernel
        rw [e] at hO
        rw [hin]
        walk_at "go"
        refine ⟨A.wa, dw, _, rfl, hob, no_Walker_branch_by_table, ?_⟩
        walk_at "go"
        refine ⟨A, c, w', iv, ls, d, rfl, hw, hi, hO.seq fun w2 G2 _ s2 hw2 hO2 => ?_⟩
        exact ⟨w2, hw2, hO2, _, _, rfl⟩
      | eff hin h1 h2 x e hx =>
        rw [e] at hO
        rw [hin]
        walk_at "go"
        refine ifSN h1 ?_
        walk_at "go"
        refine ifSN h2 ?_
        walk_at "go"
        refine ⟨A.wa, _, dw, _, _, rfl, hob, T.cl_Walker, T.n_Walker_scope, lk_Walker_scope, ?_⟩
        walk_at "go"
        refine ⟨A.sc, A.lb, c, w'.labels, iv, nameI i, ds, rfl, hw.scAt, hi2, hx T hw.scAt hw.b5 hw.cx hi (runEff_qq hO.nq) (fun eo ee v H1 s1 hv => ?_) (fun r er => ?_)⟩
        rotate_left
        · exact hO.flt hw (w' := w') (by rw [er]; rfl) rfl
        subst ee
        obtain ⟨t, g⟩ := eo
        have lt : t.length ≤ 5000 := by
          by_cases h : t.length ≤ 5000
          · exact h
          · refine absurd ?_ (bnd_nq hO.nq)
            show (if t.length ≤ 5000 then _ else _ : Out).2 = _
            rw [if_neg h]; rfl
        have e2 : runEff w' (.ok (t, g)) = bnd (takeO w' t) fun w => putO w g := by
          show (if t.length ≤ 5000 then _ else _ : Out) = _
          rw [if_pos lt]
        rw [e2, bnd_assoc] at hO
        obtain ⟨va, tv, gv, rfl, hva, htk, hgv⟩ := hv.two
        obtain ⟨tt, rfl, hk1⟩ := Kds.of (ks := t) htk
        obtain ⟨gt, rfl, hk2⟩ := Kds.of (ks := g) hgv
        have hw1 := hw.same s1
        obtain ⟨dw1, hob1⟩ := hw1.ob
        obtain ⟨dk1, hkob1⟩ := hw1.stO
        refine ⟨va, _, rfl, hva, rfl, ?_⟩
        refine ⟨_, _, rfl, _, _, rfl, rfl, ?_⟩
        walk_at "go"
        refine ⟨A.wa, _, dw1, _, _, rfl, hob1, T.cl_Walker, T.n_Walker_stack, lk_Walker_stack, ?_⟩
        refine ⟨A.ks, dk1, _, rfl, hkob1, no_KindStack_take, ?_⟩
        walk_at "go"
        refine nil_go ?_
        refine take_W hw1 hk1 lt ((hO.mono (Same.sl s1)).seq fun w3 G3 _ s3 hw3 hO3 => ?_)
        obtain ⟨dw3, hob3⟩ := hw3.ob
        obtain ⟨dk3, hkob3⟩ := hw3.stO
        walk_at "go"
        refine ⟨A.wa, _, dw3, _, _, rfl, hob3, T.cl_Walker, T.n_Walker_stack, lk_Walker_stack, ?_⟩
        refine ⟨A.ks, dk3, _, rfl, hkob3, no_KindStack_put, ?_⟩
        walk_at "go"
        refine nil_go ?_
        refine put_W (E := E) hw3 (hw1.ti s3 _ _ hk2) (hO3.seq fun w4 G4 _ s4 hw4 hO4 => ?_)
        exact ⟨w4, hw4, hO4, _, _, rfl⟩
    rintro _ G ⟨w2, hw2, hO2, o3, o4, rfl⟩
    walk_at "go"
    refine ⟨cs.t_LOOSENING, _, rfl, .inr T.d_LOOSENING.sq, rfl, rfl, ?_⟩
    rw [loos_in]
    unfold lo at hO2
    cases hl : loosing (nameI i) with
    | false =>
      rw [hl, if_neg (by decide)] at hO2
      walk_at "go"
      exact hO2.end hw2 rfl
    | true =>
      rw [hl, if_pos rfl] at hO2
      obtain ⟨dw2, hob2⟩ := hw2.ob
      obtain ⟨dk2, hkob2⟩ := hw2.stO
      walk_at "go"
      refine ⟨A.wa, _, dw2, _, _, rfl, hob2, T.cl_Walker, T.n_Walker_stack, lk_Walker_stack, ?_⟩
      refine ⟨A.ks, dk2, _, rfl, hkob2, no_KindStack_loosen, ?_⟩
      refine nil_go ?_
      exact loosen_W (E := E) (Q := Q) hw2 hO2
theorem c_Walker_walk_body_step (D : DefM K (Cs.C_Walker cs) "walk_body" "Walker.walk_body" s_Walker_walk_body ["self", "body", "params", "results", "label"]) (T : Tp w K mg cs) (c_KindStack_enter : CalM P w K mg base CX0 (Cs.C_KindStack cs) 3 "enter" (sp_KindStack_enter K cs)) (c_Walker_mark : CalM P w K mg base CX0 (Cs.C_Walker cs) 3 "mark" (sp_Walker_mark K cs)) (c_KindStack_leave : CalM P w K mg base (L2.CX P w) (Cs.C_KindStack cs) 5 "leave" (sp_KindStack_leave K cs)) (d : Nat) (c_Walker_walk_instruction : CalM P w K mg base (L2.CX P w) (Cs.C_Walker cs) (6 + 3 * d + 2) "walk_instruction" (sp_Walker_walk_instruction_at K cs d)) : CalM P w K mg base (L2.CX P w) (Cs.C_Walker cs) (6 + 3 * d + 3) "walk_body" (sp_Walker_walk_body K cs d) := by
  refine D.okX sc_Walker_walk_body T.cl_Walker (fun vs H Q E h => ?_) (fun f cdv A outer s H vs Q E hr h => ?_)
  · obtain ⟨A, c, w', bv, pv, rv, lv, is, ps, rs, lb, rfl, _⟩ := h; rfl
  · obtain ⟨A, c, w', bv, pv', rv, lv, is, ps, rs, lb, rfl, hb, hp, hr', hl, hw, hO⟩ := h
    obtain ⟨dw, hob⟩ := hw.ob
    obtain ⟨dx, x0, rs0, x3, x4, x5, x6, x7, x8, hsc, _⟩ := hw.rs
    obtain ⟨lbs, elb, dlb⟩ := hw.lb
    have ll := dlb.len
    rw [List.length_map] at ll
    have b4 := hw.b4
    have cnd : w'.labels.length < 1000 ∧ is.length ≤ 100000 ∧ ps.length ≤ 1000 ∧ rs.length ≤ 1000 ∧ lb.length ≤ 1000 := by
      by_cases h : w'.labels.length < 1000 ∧ is.length ≤ 100000 ∧ ps.length ≤ 1000 ∧ rs.length ≤ 1000 ∧ lb.length ≤ 1000
      · exact h
      · exact absurd (by rw [bodyO, if_neg h]; rfl) hO.nq
    rw [bodyO, if_pos cnd] at hO
    obtain ⟨c1, c2, c3, c4, c5⟩ := cnd
    have hb0 := hb
    unfold bodD at hb0
    rw [insDs_map] at hb0
    obtain ⟨ba, xs, rfl, hba, hxs⟩ := hb0.vtup
    have lx := hxs.len
    rw [List.length_map] at lx
    obtain ⟨pt, rfl, _⟩ := hp.sqS
    obtain ⟨rt, rfl, _⟩ := hr'.sqS
    refine ⟨_, (pss_cons (ps_expr (pe_bm PySem.F.plainAttrs_list PySem.F.slot_list_append PySem.F.type_list_append mt_append (pe_fld (pe_fld (pv 0) rfl) rfl) (pa_cons (pv 4) pa_nil)))
      (pss_cons (ps_expr (pe_mE c_KindStack_enter hr (by omega) pass0 (pe_fld (pv 0) rfl) (pa_cons (pv 2) pa_nil)))
      (pss_cons (ps_for (passes_of rfl) rfl (pi_tup (pv 1)) (pg_name (i := 5) sc_Walker_walk_body.nd rfl (by first | exact Or.inl rfl | exact Or.inr rfl)) (pss_cons (ps_expr (pe_mE0 c_Walker_mark hr (by omega) pass0 (pv 0)))
      (pss_one (ps_expr (pe_mE c_Walker_walk_instruction hr (by omega) (passes_call (takes_of rfl rfl rfl rfl) (fun _ _ _ _ h => h)) (pv 0) (pa_cons (pv 5) pa_nil))))))
      (pss_cons (ps_expr (pe_mE0 c_Walker_mark hr (by omega) pass0 (pv 0)))
      (pss_cons (ps_expr (pe_mE c_KindStack_leave hr (by omega) (passes_call (takes_of rfl rfl rfl rfl) (fun _ _ _ _ h => h)) (pe_fld (pv 0) rfl) (pa_cons (pv 3) pa_nil)))
      (pss_one (ps_expr (pe_bm0 PySem.F.plainAttrs_list PySem.F.slot_list_pop PySem.F.type_list_pop mt_pop (pe_fld (pe_fld (pv 0) rfl) rfl))))))))), ?_⟩
    walk_at "go"
    refine ⟨A.wa, _, dw, _, _, rfl, hob, T.cl_Walker, T.n_Walker_scope, lk_Walker_scope, ?_⟩
    refine ⟨A.sc, _, dx, _, _, rfl, hsc, T.cl_Scope, T.n_Scope_labels, lk_Scope_labels, ?_⟩
    walk_at "go"
    refine ⟨.inl ⟨rfl, _, SqL.of elb⟩, ?_⟩
    walk_at "go"
    refine ⟨_, _, _, rfl, rfl, elb, small64' (by omega), ?_⟩
    obtain ⟨s1, hw1⟩ := hw.lab elb (ys := lbs ++ [lv]) (ls := w'.labels ++ [lb]) (by rw [List.map_append]; exact dlb.snoc hl) (by rw [List.length_append]; exact c1) (fun ks hk => by
      rcases List.mem_append.mp hk with h | h
      · exact hw.b5 ks h
      · rw [List.mem_singleton.mp h]; exact c5)
    have hO1 := hO.mono s1
    generalize upd H A.lb (.lst (lbs ++ [lv])) = H1 at s1 hw1 hO1
    clear hO
    have t1 := hw.ti s1
    obtain ⟨dw1, hob1⟩ := hw1.ob
    obtain ⟨dk1, hkob1⟩ := hw1.stO
    walk_at "go"
    refine ⟨A.wa, _, dw1, _, _, rfl, hob1, T.cl_Walker, T.n_Walker_stack, lk_Walker_stack, ?_⟩
    refine ⟨A.ks, dk1, _, rfl, hkob1, no_KindStack_enter, ?_⟩
    walk_at "go"
    refine nil_go ?_
    refine enter_W (E := E) hw1 (Kds.refS (hp.ti t1)) (hO1.seq fun w2 H2 _ s2 hw2 hO2 => ?_)
    have t2 := t1.trans (hw1.ti s2)
    clear hO1
    refine ⟨_, rfl, ba, rfl, ⟨xs, t2 _ _ hba⟩, for_tupE (xs := xs) (fun j σ G => ∃ w4, SL A.L H2 G ∧ WkAt K cs G A c w4 ∧ WOut K cs A c G Q E (bnd (listO (insO (bodyO d c) c) w4 (is.drop j)) fun w => bnd (markO w) fun w => bnd (leaveO w rs) fun w => if 0 < w.labels.length then ok1 { w with labels := w.labels.dropLast } else er1 w qq) ∧ ∃ o5, σ = [some (.ref A.wa), some (.ref ba), some (.ref pt), some (.ref rt), some lv, o5])
      ⟨w2, SL.refl _, hw2, hO2, _, rfl⟩ (fun j σ G _ h => by obtain ⟨_, s, _⟩ := h; exact hw2.ti s _ _ (t2 _ _ hba)) ?_ ?_⟩
    · rintro j x _ G hx ⟨w4, s4, hw4, hO4, o5, rfl⟩
      obtain ⟨dd, ed, hd⟩ := (hxs.ti (t2.trans (hw2.ti s4))).geti hx
      rw [List.getElem?_map] at ed
      obtain ⟨i, er, rfl⟩ := Option.map_eq_some_iff.mp ed
      have hj : j < is.length := (List.getElem?_eq_some_iff.mp er).1
      rw [List.drop_eq_getElem_cons hj, show is[j] = i from by have := er; rw [List.getElem?_eq_getElem hj] at this; exact Option.some.inj this, listO, bnd_assoc] at hO4
      obtain ⟨dw4, hob4⟩ := hw4.ob
      walk_at "go"
      refine ⟨A.wa, dw4, _, rfl, hob4, no_Walker_mark, ?_⟩
      walk_at "go"
      refine ⟨A, c, w4, E, rfl, hw4, hO4.seq fun w5 G5 _ s5 hw5 hO5 => ?_⟩
      rw [bnd_assoc] at hO5
      obtain ⟨dw5, hob5⟩ := hw5.ob
      walk_at "go"
      refine ⟨A.wa, dw5, _, rfl, hob5, no_Walker_walk_instruction, ?_⟩
      walk_at "go"
      refine ⟨A, c, w5, x, i, rfl, hd.ti (hw4.ti s5), hw5, hO5.seq fun w6 G6 _ s6 hw6 hO6 => ?_⟩
      exact ⟨w6, (s4.trans s5).trans s6, hw6, hO6, _, rfl⟩
    · rintro _ G ⟨w4, s4, hw4, hO4, o5, rfl⟩
      rw [lx, List.drop_length, listO] at hO4
      have hO4 : WOut K cs A c G Q E (bnd (markO w4) fun w => bnd (leaveO w rs) fun w => if 0 < w.labels.length then ok1 { w with labels := w.labels.dropLast } else er1 w qq) := hO4
      obtain ⟨dw4, hob4⟩ := hw4.ob
      walk_at "go"
      refine ⟨A.wa, dw4, _, rfl, hob4, no_Walker_mark, ?_⟩
      walk_at "go"
      refine ⟨A, c, w4, E, rfl, hw4, hO4.seq fun w5 G5 _ s5 hw5 hO5 => ?_⟩
      obtain ⟨dw5, hob5⟩ := hw5.ob
      obtain ⟨dk5, hkob5⟩ := hw5.stO
      walk_at "go"
      refine ⟨A.wa, _, dw5, _, _, rfl, hob5, T.cl_Walker, T.n_Walker_stack, lk_Walker_stack, ?_⟩
      refine ⟨A.ks, dk5, _, rfl, hkob5, no_KindStack_leave, ?_⟩
      walk_at "go"
      refine nil_go ?_
      refine leave_W hw5 (Kds.refS (hr'.ti (t2.trans ((hw2.ti s4).trans (hw4.ti s5))))) c4 (hO5.seq fun w6 G6 _ s6 hw6 hO6 => ?_)
      have pos : 0 < w6.labels.length := by
        by_cases h : 0 < w6.labels.length
        · exact h
        · exact absurd (by rw [if_neg h]; rfl) hO6.nq
      rw [if_pos pos] at hO6
      obtain ⟨lbs6, elb6, dlb6⟩ := hw6.lb
      have l6 := dlb6.len
      rw [List.length_map] at l6
      obtain ⟨dw6, hob6⟩ := hw6.ob
      obtain ⟨dx6, y0, rs6, y3, y4, y5, y6, y7, y8, hsc6, _⟩ := hw6.rs
      walk_at "go"
      refine ⟨A.wa, _, dw6, _, _, rfl, hob6, T.cl_Walker, T.n_Walker_scope, lk_Walker_scope, ?_⟩
      refine ⟨A.sc, _, dx6, _, _, rfl, hsc6, T.cl_Scope, T.n_Scope_labels, lk_Scope_labels, .inl ⟨rfl, _, SqL.of elb6⟩, ?_⟩
      refine ⟨A.lb, _, _, rfl, rfl, elb6, List.getElem?_eq_getElem (by omega), ?_⟩
      have dl : DtA K G6 lbs6.dropLast (w6.labels.dropLast.map tupS) := by
        rw [List.dropLast_eq_take, List.dropLast_eq_take, l6, List.map_take]
        exact dlb6.take _
      have b46 := hw6.b4
      obtain ⟨s7, hw7⟩ := hw6.lab elb6 dl (by rw [List.length_dropLast]; omega) (fun ks hk => hw6.b5 ks (List.dropLast_subset _ hk))
      exact hO6.ok _ _ rfl s7 hw7
theorem c_Walker_walk_body (D_Walker_walk_body : DefM K (Cs.C_Walker cs) "walk_body" "Walker.walk_body" s_Walker_walk_body ["self", "body", "params", "results", "label"]) (D_Walker_walk_block : DefM K (Cs.C_Walker cs) "walk_block" "Walker.walk_block" s_Walker_walk_block ["self", "instruction"]) (D_Walker_walk_instruction : DefM K (Cs.C_Walker cs) "walk_instruction" "Walker.walk_instruction" s_Walker_walk_instruction ["self", "instruction"]) (T : Tp w K mg cs) (c_KindStack_enter : CalM P w K mg base CX0 (Cs.C_KindStack cs) 3 "enter" (sp_KindStack_enter K cs)) (c_Walker_mark : CalM P w K mg base CX0 (Cs.C_Walker cs) 3 "mark" (sp_Walker_mark K cs)) (c_KindStack_leave : CalM P w K mg base (L2.CX P w) (Cs.C_KindStack cs) 5 "leave" (sp_KindStack_leave K cs)) (c_Scope_shape : CalM P w K mg base (L2.CX P w) (Cs.C_Scope cs) 3 "shape" (sp_Scope_shape K cs)) (c_KindStack_take : CalM P w K mg base (L2.CX P w) (Cs.C_KindStack cs) 4 "take" (sp_KindStack_take K cs)) (c_bodies_of : Cal P w K mg base CX0 1 "bodies_of" (sp_bodies_of K cs)) (c_KindStack_put : CalM P w K mg base CX0 (Cs.C_KindStack cs) 1 "put" (sp_KindStack_put K cs)) (c_Walker_check_catch : CalM P w K mg base (L2.CX P w) (Cs.C_Walker cs) 4 "check_catch" (sp_Walker_check_catch K cs)) (c_KindStack_loosen : CalM P w K mg base CX0 (Cs.C_KindStack cs) 1 "loosen" (sp_KindStack_loosen K cs)) (c_Walker_choose : CalM P w K mg base (L2.CX P w) (Cs.C_Walker cs) 5 "choose" (sp_Walker_choose K cs)) (c_Walker_branch_by_table : CalM P w K mg base (L2.CX P w) (Cs.C_Walker cs) 5 "branch_by_table" (sp_Walker_branch_by_table K cs)) (c_effect_of : Cal P w K mg base (L2.CX P w) 5 "effect_of" (sp_effect_of K cs)) : ∀ d : Nat, CalM P w K mg base (L2.CX P w) (Cs.C_Walker cs) (6 + 3 * d + 3) "walk_body" (sp_Walker_walk_body K cs d)
  | 0 => by
    have z_Walker_walk_body := (D_Walker_walk_body.noneX sc_Walker_walk_body T.cl_Walker : CalM P w K mg base (L2.CX P w) (Cs.C_Walker cs) (6 + 3 * 0) "walk_body" (sp_Walker_walk_body_at K cs 0))
    have z_Walker_walk_block := c_Walker_walk_block_at D_Walker_walk_block T c_Scope_shape c_KindStack_take c_bodies_of c_KindStack_put c_Walker_check_catch 0 z_Walker_walk_body
    have z_Walker_walk_instruction := c_Walker_walk_instruction_at D_Walker_walk_instruction T c_KindStack_loosen c_Walker_choose c_Walker_branch_by_table c_effect_of c_KindStack_take c_KindStack_put 0 z_Walker_walk_block
    exact (c_Walker_walk_body_step D_Walker_walk_body T c_KindStack_enter c_Walker_mark c_KindStack_leave 0 z_Walker_walk_instruction)
  | d + 1 => by
    have z_Walker_walk_body := c_Walker_walk_body D_Walker_walk_body D_Walker_walk_block D_Walker_walk_instruction T c_KindStack_enter c_Walker_mark c_KindStack_leave c_Scope_shape c_KindStack_take c_bodies_of c_KindStack_put c_Walker_check_catch c_KindStack_loosen c_Walker_choose c_Walker_branch_by_table c_effect_of d
    rw [show 6 + 3 * d + 3 = 6 + 3 * (d + 1) by omega] at z_Walker_walk_body
    have z_Walker_walk_block := c_Walker_walk_block_at D_Walker_walk_block T c_Scope_shape c_KindStack_take c_bodies_of c_KindStack_put c_Walker_check_catch (d + 1) z_Walker_walk_body
    have z_Walker_walk_instruction := c_Walker_walk_instruction_at D_Walker_walk_instruction T c_KindStack_loosen c_Walker_choose c_Walker_branch_by_table c_effect_of c_KindStack_take c_KindStack_put (d + 1) z_Walker_walk_block
    exact (c_Walker_walk_body_step D_Walker_walk_body T c_KindStack_enter c_Walker_mark c_KindStack_leave (d + 1) z_Walker_walk_instruction)
theorem c_Walker___init__ (D : DefI K (Cs.C_Walker cs) "Walker.__init__" s_Walker___init__ ["self", "module", "signature", "own_kinds"]) (T : Tp w K mg cs) (c_Scope___init__ : CalI P w K mg base CX0 (Cs.C_Scope cs) 3 (sp_Scope___init__ K cs)) (c_KindStack___init__ : CalI P w K mg base CX0 (Cs.C_KindStack cs) 1 (sp_KindStack___init__ K cs)) : CalI P w K mg base CX0 (Cs.C_Walker cs) 5 (sp_Walker___init__ K cs) := by
  refine D.ok sc_Walker___init__ (fun vs H Q E h => ?_) (fun f cdv A outer s H vs Q E hr h => ?_)
  · obtain ⟨p, dx, m, M, sg, ow, sgn, own, c, rfl, _⟩ := h; rfl
  · obtain ⟨p, dx, m, M, sg, ow, sgn, own, c, rfl, hp, hM, sm, hsg, how, ⟨ho, e1, e2, e3, e4, e5, e6, e7, e8⟩, cok, q⟩ := h
    have nmp : m ≠ p := fun z => by
      obtain ⟨dm, x0, x1, x2, x3, x4, x5, x6, x7, x8, x9, x10, hm, _⟩ := hM
      rw [z, hp] at hm
      injection hm with hm
      injection hm with _ _ h3
      unfold fs_Module at h3
      exact nomatch h3
    refine ⟨_, (pss_cons (ps_fld (pv 0) (pe_nw c_Scope___init__ hr (by decide) (by rfl) T.g_Scope (pa_cons (pv 1) (pa_cons (pv 2) (pa_cons (pv 3) pa_nil)))) rfl)
      (pss_cons (ps_fld (pv 0) (pe_nw0 c_KindStack___init__ hr (by decide) (by rfl) T.g_KindStack) rfl)
      (pss_cons (ps_fld (pv 0) (pe_lst pa_nil) rfl)
      (pss_one (ps_fld (pv 0) pe_non rfl))))), ?_⟩
    walk_at "go"
    intro s ds ns nds neds
    have s0 : Same H (upd (upd H ds (.own s)) s (.ins cs.C_Scope ds [])) := made_same ns nds (SameBut.refl _)
    refine ⟨s, ds, m, M, sg, ow, sgn, own, c, rfl, upd_same, hM.same s0, sm, hsg.same s0, how.same s0, ho, e1, e2, e3, e4, e5, e6, e7, e8, fun lb H1 b1 hsc hlb hfix => ⟨rfl, ?_⟩⟩
    have s1 : Same H H1 := made_same ns nds b1
    have nlb : H lb = none := none_of s0 hlb
    have k1 := s1 _ _ hp
    obtain ⟨elb, klb, dlb⟩ := hsc.lbs
    cases dlb
    refine ⟨_, rfl, p, _, dx, _, rfl, k1, T.cl_Walker, T.n_Walker_scope, (by show 0 < 1000; decide), ?_⟩
    rw [in_Walker_0 (x0 := .ref s) (x1 := .non) (x2 := .non) (x3 := .non)]
    have S2 := (Stp.refl (K := K) (p := p) (H := H1)).put (C' := cs.C_Walker) (dx' := dx) (fs' := [("scope", .ref s)]) k1
    generalize g2 : upd H1 p _ = H2 at S2
    have k2 : H2 p = some (.ins cs.C_Walker dx [("scope", .ref s)]) := by rw [← g2]; exact upd_same
    clear g2
    walk_at "go"
    intro ks dk nks ndk nedk
    have s3 : Same H2 (upd (upd H2 dk (.own ks)) ks (.ins cs.C_KindStack dk [])) := made_same nks ndk (SameBut.refl _)
    refine ⟨ks, dk, rfl, upd_same, fun hl ll H3 hk nhl nll b3 => ⟨rfl, ?_⟩⟩
    have s3 : Same H2 H3 := made_same nks ndk b3
    have nhl2 : H2 hl = none := none_of (made_same nks ndk (SameBut.refl _)) nhl
    have nll2 : H2 ll = none := none_of (made_same nks ndk (SameBut.refl _)) nll
    have S3 := S2.same s3
    have k3 := s3 _ _ k2
    refine ⟨_, rfl, p, _, dx, _, rfl, k3, T.cl_Walker, T.n_Walker_stack, (by show 1 < 1000; decide), ?_⟩
    rw [in_Walker_1 (x0 := .ref s) (x1 := .ref ks) (x2 := .non) (x3 := .non)]
    have E4 := (Stp.refl (K := K) (p := p) (H := H3)).put (C' := cs.C_Walker) (dx' := dx) (fs' := [("scope", .ref s), ("stack", .ref ks)]) k3
    generalize g4 : upd H3 p _ = H4 at E4
    have k4 : H4 p = some (.ins cs.C_Walker dx [("scope", .ref s), ("stack", .ref ks)]) := by rw [← g4]; exact upd_same
    clear g4
    walk_at "go"
    intro sn nsn
    generalize g5 : upd H4 sn _ = H5
    obtain ⟨s5, ksn⟩ := newO nsn g5
    clear g5
    have E5 := E4.same s5
    have k5 := s5 _ _ k4
    refine ⟨_, rfl, p, _, dx, _, rfl, k5, T.cl_Walker, T.n_Walker_seen, (by show 2 < 1000; decide), ?_⟩
    rw [in_Walker_2 (x0 := .ref s) (x1 := .ref ks) (x2 := .ref sn) (x3 := .non)]
    have E6 := E5.put (C' := cs.C_Walker) (dx' := dx) (fs' := [("scope", .ref s), ("stack", .ref ks), ("seen", .ref sn)]) k5
    have F6 := (Stp.refl (K := K) (p := p) (H := H5)).put (C' := cs.C_Walker) (dx' := dx) (fs' := [("scope", .ref s), ("stack", .ref ks), ("seen", .ref sn)]) k5
    generalize g6 : upd H5 p _ = H6 at E6 F6
    have k6 : H6 p = some (.ins cs.C_Walker dx [("scope", .ref s), ("stack", .ref ks), ("seen", .ref sn)]) := by rw [← g6]; exact upd_same
    clear g6
    refine ⟨_, rfl, p, _, dx, _, rfl, k6, T.cl_Walker, T.n_Walker_reason, (by show 3 < 1000; decide), ?_⟩
    rw [in_Walker_3 (x0 := .ref s) (x1 := .ref ks) (x2 := .ref sn) (x3 := .non)]
    have E7 := E6.put (C' := cs.C_Walker) (dx' := dx) (fs' := [("scope", .ref s), ("stack", .ref ks), ("seen", .ref sn), ("reason", .non)]) k6
    have F7 := F6.put (C' := cs.C_Walker) (dx' := dx) (fs' := [("scope", .ref s), ("stack", .ref ks), ("seen", .ref sn), ("reason", .non)]) k6
    generalize g7 : upd H6 p _ = H7 at E7 F7
    have k7 : H7 p = some (.ins cs.C_Walker dx (fs_Walker (.ref s) (.ref ks) (.ref sn) .non)) := by rw [← g7]; exact upd_same
    clear g7
    -- H1 → H7 : everything but p stays
    have S17 : Stp K p H1 H7 := S3.trans E7
    have klb7 : H7 lb = some (.lst []) := S17.lst k1 klb
    have ksn7 : H7 sn = some (.lst []) := F7.lst k5 ksn
    have nsnp : sn ≠ p := fun z => by subst z; rw [k4] at nsn; cases nsn
    have nsn1 : ∀ b o, b ≠ p → H1 b = some o → b ≠ sn := fun b o nb e z => by
      subst z
      have := (S3.trans E4).but _ _ (fun q => nb (List.mem_singleton.mp q)) e
      rw [this] at nsn; cases nsn
    have new2 : ∀ a, H2 a = none → ∀ b o, b ≠ p → H1 b = some o → b ≠ a := fun a na b o nb e z => by
      subst z
      have := S2.but _ _ (fun q => nb (List.mem_singleton.mp q)) e
      rw [this] at na; cases na
    have nlbp : lb ≠ p := fun z => by subst z; rw [k1] at klb; cases klb
    have nhlp : hl ≠ p := fun z => by subst z; rw [k2] at nhl2; cases nhl2
    have nllp : ll ≠ p := fun z => by subst z; rw [k2] at nll2; cases nll2
    have hk4 : KsAt cs H7 ks hl ll [] [] [] := by
      obtain ⟨⟨dk', z1⟩, z2, z3, z4, z5, z6, z7⟩ := hk
      have mv : ∀ b o, b ≠ p → H3 b = some o → H7 b = some o := fun b o n e => E7.but b o (fun q => n (List.mem_singleton.mp q)) e
      exact ⟨⟨dk', mv _ _ (fun z => by subst z; rw [k3] at z1; injection z1 with z1; injection z1 with _ _ h3; simp [fs_KindStack] at h3) z1⟩, mv _ _ nhlp z2, mv _ _ nllp z3, z4, z5, (fun i l e => by cases i <;> cases e), z7⟩
    have nhs : hl ≠ sn := fun z => by
      have e := E4.but _ _ (fun q => nhlp (List.mem_singleton.mp q)) hk.he
      rw [z, nsn] at e; cases e
    have nls : ll ≠ sn := fun z => by
      have e := E4.but _ _ (fun q => nllp (List.mem_singleton.mp q)) hk.le
      rw [z, nsn] at e; cases e
    have nd : ([hl, ll, lb, sn] : List Addr).Nodup := by
      simp only [List.nodup_cons, List.mem_cons, List.not_mem_nil, or_false, not_or, List.nodup_nil, and_true, not_false_eq_true]
      exact ⟨⟨hk.ne, (new2 hl nhl2 lb _ nlbp klb).symm, nhs⟩, ⟨(new2 ll nll2 lb _ nlbp klb).symm, nls⟩, nsn1 lb _ nlbp klb⟩
    have nal : ∀ a ∈ (⟨p, s, ks, hl, ll, lb, sn⟩ : Ads).L, H a = none := fun a ha => by
      cases e : H a with
      | none => rfl
      | some o =>
        have e1 := s1 _ _ e
        simp only [Ads.L, List.mem_cons, List.not_mem_nil, or_false] at ha
        rcases ha with rfl | rfl | rfl | rfl
        · exact absurd rfl (new2 _ nhl2 _ _ nhlp e1)
        · exact absurd rfl (new2 _ nll2 _ _ nllp e1)
        · rw [nlb] at e; cases e
        · exact absurd rfl (nsn1 _ _ nsnp e1)
    refine q ⟨p, s, ks, hl, ll, lb, sn⟩ H7 rfl ((Same.but s1).trans S17.but) nal ⟨⟨dx, k7⟩, fun G hG => hfix G fun b o nb nl ne e => ?_, ⟨[], hk4⟩, ⟨[], klb7, .nil⟩, ⟨[], ksn7, .nil⟩, nd, Nat.zero_le _, Nat.zero_le _, Nat.zero_le _, Nat.zero_le _, (fun _ z => nomatch z), cok⟩
    have np : b ≠ p := fun z => by subst z; rw [k1] at e; cases e; exact ne _ _ rfl
    refine hG b o (fun z => ?_) nl (S17.but _ _ (fun q => np (List.mem_singleton.mp q)) e)
    simp only [Ads.L, List.mem_cons, List.not_mem_nil, or_false] at z
    rcases z with z | z | z | z
    · exact new2 hl nhl2 b o np e z
    · exact new2 ll nll2 b o np e z
    · exact nb z
    · exact nsn1 b o np e z
theorem wkr_end : True := trivial
end

/-! ### the whole walk, and the faults of a module -/
/-- the walker behind its walk -/
def DoneAt (K : PySem.W.Frag) (cs : Cs) (H : Hp) (wa : Addr) (out : Out) : Prop := ∃ (dx sc ks sn : Addr), H wa = some (.ins cs.C_Walker dx (fs_Walker (.ref sc) (.ref ks) (.ref sn) (match out.2 with | none => .non | some r => .str r))) ∧ LstAt K H sn (out.1.seen.map seenD)
def sp_Walker_walk (K : PySem.W.Frag) (cs : Cs) : Sp := fun vs H Q _ => ∃ (A : Ads) (c : Ctx) (w : Wk) (bv : V) (is : List Ins), vs = [.ref A.wa, bv] ∧ Dt K H bv (bodD is) ∧ WkAt K cs H A c w ∧ (bodyO 9 c w is [] c.results c.results).2 ≠ some qq ∧
  ∀ H', SL (A.wa :: A.L) H H' → DoneAt K cs H' A.wa (bodyO 9 c w is [] c.results c.results) → Q .non H'
theorem noP_go {σ : L2.St} {H : Hp} {F : Option Int → Hp → Prop} (h : F none H) : tNoPart σ H F := h
theorem MoAt.sl {K : PySem.W.Frag} {cs : Cs} {H H' : Hp} {m : Addr} {M : Mo} (e : SL [] H H') (h : MoAt K cs H m M) : MoAt K cs H' m M := by
  have t : Ti K H H' := e.ti fun _ z => nomatch z
  obtain ⟨dx, x0, x1, x2, x3, x4, x5, x6, x7, x8, x9, x10, h, a0, a1, a2, a3, a4, a5, a6, a7, a8, a9, a10⟩ := h
  exact ⟨dx, x0, x1, x2, x3, x4, x5, x6, x7, x8, x9, x10, e _ _ (fun z => nomatch z) nl_module h, a0.ti t, a1.ti t, a2.ti t, a3.ti t, a4.ti t, a5.ti t, a6.ti t, a7.ti t, a8.ti t, a9.ti t, a10.ti t⟩
def fnD (i : Nat) (own : List Str) (is : List Ins) : PyData := .tuple [natD i, tupS own, bodD is]
def sp_walk_through (K : PySem.W.Frag) (cs : Cs) : Sp := fun vs H Q _ => ∃ (m : Addr) (M : Mo) (fv : V) (fi : Nat) (own : List Str) (is : List Ins) (sgn : List Str × List Str) (c : Ctx), vs = [.ref m, fv] ∧ MoAt K cs H m M ∧ M.small ∧ Dt K H fv (fnD fi own is) ∧ M.sigs[fi]? = some sgn ∧ CtxOf M sgn own c ∧ CtxOk c ∧ (walkO 9 c is).2 ≠ some qq ∧
  ∀ wa H', SL [] H H' → DoneAt K cs H' wa (walkO 9 c is) → Q (.ref wa) H'
section
variable {P : Program} {w : World} {K : PySem.W.Frag} {mg : Str → Option Value} {base : Heap} {cs : Cs}
theorem c_Walker_walk (D : DefM K (Cs.C_Walker cs) "walk" "Walker.walk" s_Walker_walk ["self", "body"]) (T : Tp w K mg cs) (c_Walker_walk_body : CalM P w K mg base (L2.CX P w) (Cs.C_Walker cs) 33 "walk_body" (sp_Walker_walk_body K cs 8)) : CalM P w K mg base CX0 (Cs.C_Walker cs) 34 "walk" (sp_Walker_walk K cs) := by
  refine D.ok sc_Walker_walk T.cl_Walker (fun vs H Q E h => ?_) (fun f cdv A outer s H vs Q E hr h => ?_)
  · obtain ⟨A, c, w', bv, is, rfl, _⟩ := h; rfl
  · obtain ⟨A, c, w', bv, is, rfl, hb, hw, hn, q⟩ := h
    obtain ⟨dw, hob⟩ := hw.ob
    obtain ⟨dx, x0, rs, x3, x4, x5, x6, x7, x8, hsc, hrs⟩ := hw.rs
    refine ⟨_, (pss_cons (ps_set (i := 2) sc_Walker_walk.nd rfl (by first | exact Or.inl rfl | exact Or.inr rfl) (pe_fld (pe_fld (pv 0) rfl) rfl))
      (pss_one (ps_try_as (i := 3) (tb := _) (ts := _) (Wout := fun _ _ _ _ => False) rfl rfl sc_Walker_walk.nd rfl rfl ⟨rfl, by decide, .inl T.g_CodeFault⟩ takes0 (fun W pn xe tk po => (pss_one (ps_expr (pe_mS c_Walker_walk_body hr (by decide) (fun σ => passAt tk σ) (pv 0) (pa_cons (pv 1) (pa_cons (pe_tup pa_nil) (pa_cons (pv 2) (pa_cons (pv 2) pa_nil)))))))) (fun a oe cls d pn hz hf => (pss_one (ps_fldS (pv 0) (pe_xf T.e_CodeFault.xf T.no_CodeFault_reason hz hf (pv 3)) rfl)))))), ?_⟩
    walk_at "go"
    refine ⟨A.wa, _, dw, _, _, rfl, hob, T.cl_Walker, T.n_Walker_scope, lk_Walker_scope, ?_⟩
    refine ⟨A.sc, _, dx, _, _, rfl, hsc, T.cl_Scope, T.n_Scope_results, lk_Scope_results, ?_⟩
    walk_at "go"
    refine ⟨A.wa, dw, _, rfl, hob, no_Walker_walk_body, ?_⟩
    walk_at "go"
    intro p1 n1; generalize g1 : upd H p1 _ = H1; obtain ⟨s1, d1⟩ := newT (K := K) (ds := []) n1 g1 .nil
    walk_at "go"
    refine nil_go ?_
    have hw1 := hw.same s1
    refine ⟨A, c, w', bv, .ref p1, .ref rs, .ref rs, is, [], c.results, c.results, rfl, hb.same s1, d1, hrs.same s1, hrs.same s1, hw1, fun w2 H2 e s2 hw2 => ?_, fun w2 r e d Hf s2 l2 ed => ?_, hn⟩
    · refine q H2 (fun b o n nl e => s2 _ _ (fun z => n (List.mem_cons_of_mem _ z)) nl (s1 _ _ e)) ?_
      obtain ⟨dw2, hob2⟩ := hw2.ob
      have e : bodyO 9 c w' is [] c.results c.results = (w2, none) := e
      rw [e]
      exact ⟨dw2, _, _, _, hob2, hw2.sn⟩
    · have hobf := s2 _ _ (hw1.nin (s1 _ _ hob) fun _ z => nomatch z) nl_walker (s1 _ _ hob)
      refine ⟨true, T.exm_CodeFault_CodeFault, fun _ a ha => ?_, fun z => nomatch z⟩
      refine ⟨_, rfl, rfl, rfl, d, _, .str r, rfl, ed, lk_hd, ?_⟩
      refine ⟨_, rfl, A.wa, _, dw, _, rfl, hobf, T.cl_Walker, T.n_Walker_reason, (by show 4 < 1000; decide), ?_⟩
      rw [pt_Walker_reason]
      have e : bodyO 9 c w' is [] c.results c.results = (w2, some r) := e
      have tl : Ti K Hf (upd Hf A.wa (.ins cs.C_Walker dw (fs_Walker (.ref A.sc) (.ref A.ks) (.ref A.sn) (.str r)))) := Ti.put hobf (fun _ z => nomatch z) (fun _ _ z => nomatch z)
      obtain ⟨xs, ex, dxs⟩ := l2
      refine q _ (fun b o n nl e => ?_) ?_
      · have nb : b ≠ A.wa := fun z => n (by rw [z]; exact List.mem_cons_self)
        exact (upd_ne nb).trans (s2 _ _ (fun z => n (List.mem_cons_of_mem _ z)) nl (s1 _ _ e))
      · rw [e]
        have ns : A.sn ≠ A.wa := fun z => by rw [z, hobf] at ex; cases ex
        exact ⟨dw, _, _, _, upd_same, xs, (upd_ne ns).trans ex, dxs.ti tl⟩
theorem c_walk_through (D : Def K mg "walk_through" s_walk_through ["module", "function"]) (T : Tp w K mg cs) (c_Walker___init__ : CalI P w K mg base CX0 (Cs.C_Walker cs) 5 (sp_Walker___init__ K cs)) (c_Walker_walk : CalM P w K mg base CX0 (Cs.C_Walker cs) 34 "walk" (sp_Walker_walk K cs)) : Cal P w K mg base CX0 35 "walk_through" (sp_walk_through K cs) := by
  refine D.ok sc_walk_through (fun vs H Q E h => ?_) (fun f cdv A outer s H vs Q E hr h => ?_)
  · obtain ⟨m, M, fv, fi, own, is, sgn, c, rfl, _⟩ := h; rfl
  · obtain ⟨m, M, fv, fi, own, is, sgn, c, rfl, hM, sm, hf, esg, hc, cok, hn, q⟩ := h
    obtain ⟨dm, x0, x1, x2, x3, x4, x5, x6, x7, x8, x9, x10, hm, a0, _⟩ := id hM
    obtain ⟨fa, y0, y1, y2, rfl, hfa, t0, t1, t2⟩ := hf.three
    have v0 := t0.vint
    subst v0
    refine ⟨_, (pss_cons (ps_asg (pv 1) (pg_tup (by rfl) (pgs_cons (pg_name (i := 2) sc_walk_through.nd rfl (by first | exact Or.inl rfl | exact Or.inr rfl)) (pgs_cons (pg_name (i := 3) sc_walk_through.nd rfl (by first | exact Or.inl rfl | exact Or.inr rfl)) (pgs_cons (pg_name (i := 4) sc_walk_through.nd rfl (by first | exact Or.inl rfl | exact Or.inr rfl)) pgs_nil)))))
      (pss_cons (ps_set (i := 5) sc_walk_through.nd rfl (by first | exact Or.inl rfl | exact Or.inr rfl) (pe_nw c_Walker___init__ hr (by decide) (by rfl) T.g_Walker (pa_cons (pv 0) (pa_cons (pe_ix ix_tup (pe_fld (pv 0) rfl) (pv 2) (fun _ _ => rfl)) (pa_cons (pv 3) pa_nil)))))
      (pss_cons (ps_expr (pe_mE c_Walker_walk hr (by decide) pass0 (pv 5) (pa_cons (pv 4) pa_nil)))
      (pss_one (ps_ret (pv 5)))))), ?_⟩
    walk_at "go"
    refine ⟨fa, _, rfl, hfa, rfl, ?_⟩
    walk_at "go"
    refine ⟨m, _, dm, _, _, rfl, hm, T.cl_Module, T.n_Module_signatures, lk_Module_signatures, ?_⟩
    walk_at "go"
    refine ix_D (k := fi) (d := sgD sgn) a0 (by rw [List.getElem?_map, esg]; rfl) fun v hv => ?_
    walk_at "go"
    intro wa dw nwa ndw ned
    have s0 : Same H (upd (upd H dw (.own wa)) wa (.ins cs.C_Walker dw [])) := made_same nwa ndw (SameBut.refl _)
    refine ⟨wa, dw, m, M, v, y1, sgn, own, c, rfl, upd_same, hM.same s0, sm, hv.same s0, t1.same s0, hc, cok, fun A H1 eA b1 nL hw => ⟨rfl, ?_⟩⟩
    have s1 : Same H H1 := made_same nwa ndw b1
    subst eA
    obtain ⟨dw1, hob1⟩ := hw.ob
    walk_at "go"
    refine ⟨A.wa, dw1, _, rfl, hob1, no_Walker_walk, ?_⟩
    walk_at "go"
    refine ⟨A, c, wk0, y2, is, rfl, t2.same s1, hw, hn, fun H2 s2 hd => ?_⟩
    walk_at "go"
    refine q A.wa H2 (fun b o _ nl e => s2 _ _ (fun z => ?_) nl (s1 _ _ e)) hd
    rcases List.mem_cons.mp z with z | z
    · rw [z, nwa] at e; cases e
    · have := none_of s0 (nL b z)
      rw [this] at e; cases e
end
abbrev Fn := Nat × List Str × List Ins
def fnM (f : Fn) : Nat × PyData × PyData := (f.1, tupS f.2.1, bodD f.2.2)
/-- the first fault in the code of functions -/
def codeRes : Nat → List Out → PyData
  | _, [] => .none
  | i, o :: r => match o.2 with
    | none => codeRes (i + 1) r
    | some e => .tuple [.str "code", natD i, .str e, .int ((o.1.seen.length : Int) - 1), seenD (o.1.seen.getLast?.getD ([], false))]
def sp_code_fault (K : PySem.W.Frag) (cs : Cs) : Sp := fun vs H Q _ => ∃ (m : Addr) (M : Mo) (fs : List Fn) (cf : Fn → Ctx), vs = [.ref m] ∧ MoAt K cs H m M ∧ M.small ∧ M.funs = fs.map fnM ∧
  (∀ f ∈ fs, ∃ sgn, M.sigs[f.1]? = some sgn ∧ CtxOf M sgn f.2.1 (cf f) ∧ CtxOk (cf f) ∧ (walkO 9 (cf f) f.2.2).2 ≠ some qq ∧ ((walkO 9 (cf f) f.2.2).2 ≠ none → (walkO 9 (cf f) f.2.2).1.seen ≠ [])) ∧
  ∀ v H', SL [] H H' → Dt K H' v (codeRes 0 (fs.map fun f => walkO 9 (cf f) f.2.2)) → Q v H'
section
variable {P : Program} {w : World} {K : PySem.W.Frag} {mg : Str → Option Value} {base : Heap} {cs : Cs}
theorem c_code_fault (D : Def K mg "code_fault" s_code_fault ["module"]) (T : Tp w K mg cs) (c_walk_through : Cal P w K mg base CX0 35 "walk_through" (sp_walk_through K cs)) : Cal P w K mg base CX0 36 "code_fault" (sp_code_fault K cs) := by
  refine D.ok sc_code_fault (fun vs H Q E h => ?_) (fun f cdv A outer s H vs Q E hr h => ?_)
  · obtain ⟨m, M, fs, cf, rfl, _⟩ := h; rfl
  · obtain ⟨m, M, fs, cf, rfl, hM, sm, ef, hg, q⟩ := h
    obtain ⟨dm, x0, x1, x2, x3, x4, x5, x6, x7, x8, x9, x10, hm, a0, a1, a2, _⟩ := id hM
    rw [ef, List.map_map] at a2
    obtain ⟨fa, xs, rfl, hfa, hxs⟩ := a2.vtup
    have lx := hxs.len
    rw [List.length_map] at lx
    refine ⟨_, (pss_cons (ps_for PassesOwn.never rfl (pi_enumT (by rfl) T.m_enumerate (pa_cons (pe_fld (pv 0) rfl) pa_nil)) (pg_tup (by rfl) (pgs_cons (pg_name (i := 1) sc_code_fault.nd rfl (by first | exact Or.inl rfl | exact Or.inr rfl)) (pgs_cons (pg_name (i := 2) sc_code_fault.nd rfl (by first | exact Or.inl rfl | exact Or.inr rfl)) pgs_nil))) (pss_cons (ps_set (i := 3) sc_code_fault.nd rfl (by first | exact Or.inl rfl | exact Or.inr rfl) (pe_c c_walk_through hr (by decide) (by rfl) (pa_cons (pv 0) (pa_cons (pv 2) pa_nil))))
      (pss_one (ps_if (pt_cmpR op_notN (pe_fld (pv 3) rfl) pe_non (by first | rfl | exact nomark _)) (pss_one (ps_ret (pe_tup (pa_cons pe_str (pa_cons (pv 1) (pa_cons (pe_fld (pv 3) rfl) (pa_cons (pe_op op_sub (pe_callB call_len_seq (by rfl) T.m_len PySem.boot_len (pa_cons (pe_fld (pv 3) rfl) pa_nil)) pe_int) (pa_cons (pe_ix ix_list (pe_fld (pv 3) rfl) (pe_un un_neg pe_int) (fun _ _ => rfl)) pa_nil)))))))) pss_nil))))
      (pss_one (ps_ret pe_non))), ?_⟩
    walk_at "go"
    refine ⟨m, _, dm, _, _, rfl, hm, T.cl_Module, T.n_Module_functions, lk_Module_functions, ?_⟩
    walk_at "go"
    refine ⟨fa, xs, rfl, hfa, for_enT (xs := xs) (fun i σ G => SL [] H G ∧ (∀ v H', SL [] G H' → Dt K H' v (codeRes i ((fs.drop i).map fun f => walkO 9 (cf f) f.2.2)) → Q v H') ∧ ∃ o1 o2 o3, σ = [some (.ref m), o1, o2, o3]) ⟨SL.refl _, q, _, _, _, rfl⟩ (fun i σ G _ h => (h.1.ti fun _ z => nomatch z) _ _ hfa) ?_ ?_⟩
    · rintro i x t _ G hx ⟨s1, q1, o1, o2, o3, rfl⟩ ht
      generalize e1 : upd G t _ = G1
      obtain ⟨s2, kt⟩ := newO ht e1
      clear e1
      have sH : SL [] H G1 := s1.trans (Same.sl s2)
      have s2' : SL [] G G1 := Same.sl s2
      obtain ⟨d, ed, dx⟩ := (hxs.ti (sH.ti fun _ z => nomatch z)).geti hx
      rw [List.getElem?_map] at ed
      obtain ⟨f0, ef0, rfl⟩ := Option.map_eq_some_iff.mp ed
      have hi : i < fs.length := (List.getElem?_eq_some_iff.mp ef0).1
      obtain ⟨sgn, esg, hc, cok, hn, hse⟩ := hg f0 (List.mem_of_getElem? ef0)
      rw [List.drop_eq_getElem_cons hi, show fs[i] = f0 from by have := ef0; rw [List.getElem?_eq_getElem hi] at this; exact Option.some.inj this, List.map_cons] at q1
      refine ⟨t, _, rfl, SqT.of kt, rfl, ?_⟩
      refine ⟨_, _, rfl, _, _, rfl, rfl, ?_⟩
      walk_at "go"
      refine ⟨m, M, x, f0.1, f0.2.1, f0.2.2, sgn, cf f0, rfl, hM.sl sH, sm, dx, esg, hc, cok, hn, fun wa G2 s3 hd => ?_⟩
      have sH2 := sH.trans s3
      generalize eo : walkO 9 (cf f0) f0.2.2 = out at q1 hd hse
      obtain ⟨dw, sc, ks, sn, hob, xs2, exs, dxs⟩ := hd
      have lx2 := dxs.len
      rw [List.length_map] at lx2
      cases e2 : out.2 with
      | none =>
        rw [e2] at hob
        have hob : G2 wa = some (.ins cs.C_Walker dw (fs_Walker (.ref sc) (.ref ks) (.ref sn) .non)) := hob
        walk_at "go"
        refine ⟨wa, _, dw, _, _, rfl, hob, T.cl_Walker, T.n_Walker_reason, lk_Walker_reason, ?_⟩
        walk_at "go"
        refine ⟨fun v H' s4 hv => q1 v H' (s2'.trans (s3.trans s4)) ?_, _, _, _, rfl⟩
        rw [codeRes, e2]
        exact hv
      | some r =>
        rw [e2] at hob
        have hob : G2 wa = some (.ins cs.C_Walker dw (fs_Walker (.ref sc) (.ref ks) (.ref sn) (.str r))) := hob
        walk_at "go"
        refine ⟨wa, _, dw, _, _, rfl, hob, T.cl_Walker, T.n_Walker_reason, lk_Walker_reason, ?_⟩
        walk_at "go"
        refine ⟨wa, _, dw, _, _, rfl, hob, T.cl_Walker, T.n_Walker_reason, lk_Walker_reason, ?_⟩
        walk_at "go"
        refine ⟨wa, _, dw, _, _, rfl, hob, T.cl_Walker, T.n_Walker_seen, lk_Walker_seen, ?_⟩
        have ne := hse (by rw [e2]; exact fun z => nomatch z)
        obtain ⟨z, ez⟩ : ∃ z, out.1.seen.getLast? = some z := by
          cases h : out.1.seen.getLast? with
          | none => exact absurd (List.getLast?_eq_none_iff.mp h) ne
          | some z => exact ⟨z, rfl⟩
        obtain ⟨v, ev, hv⟩ := dxs.get (k := xs2.length - 1) (d := seenD z) (by rw [lx2, List.getElem?_map, ← List.getLast?_eq_getElem?, ez]; rfl)
        have el : xs2.getLast? = some v := by rw [List.getLast?_eq_getElem?]; exact ev
        walk_at "go"
        refine ⟨sn, _, rfl, .inl (SqL.of exs), ?_⟩
        walk_at "go"
        refine ⟨wa, _, dw, _, _, rfl, hob, T.cl_Walker, T.n_Walker_seen, lk_Walker_seen, ?_⟩
        walk_at "go"
        refine ⟨sn, _, _, _, rfl, rfl, SqL.of exs, at_last el, ?_⟩
        walk_at "go"
        rw [Int.zero_add, lx2]
        refine ⟨small64 (by show 5 ≤ 1000000; decide), ?_⟩
        intro p3 n3; generalize g3 : upd G2 p3 _ = G3; obtain ⟨s4, d3⟩ := newT (K := K) (ds := [.str "code", natD i, .str r, .int ((out.1.seen.length : Int) - 1), seenD z]) n3 g3 (.cons (.str _) (.cons (.int _) (.cons (.str _) (.cons (.int _) (.cons hv .nil)))))
        refine q1 _ _ (s2'.trans (s3.trans (Same.sl s4))) ?_
        rw [codeRes, e2, ez]
        exact d3
    · rintro _ G ⟨s1, q1, o1, o2, o3, rfl⟩
      rw [lx, List.drop_length] at q1
      walk_at "go"
      exact q1 _ G (SL.refl _) .non
theorem chkw_end : True := trivial
end

/-- a reason that finds nothing -/
def spF (K : PySem.W.Frag) (cs : Cs) (p : Mo → PyData → Prop) : Sp := fun vs H Q _ => ∃ (m : Addr) (M : Mo) (v : V) (d : PyData), vs = [.ref m, v] ∧ MoAt K cs H m M ∧ Dt K H v d ∧ p M d ∧ ∀ H', Same H H' → Q .non H'
def pSig (M : Mo) (d : PyData) : Prop := ∃ n : Nat, d = natD n ∧ n < M.sigs.length
def pTag (M : Mo) (d : PyData) : Prop := ∃ (n : Nat) (ps : List Str), d = natD n ∧ M.sigs[n]? = some (ps, [])
def pTab (_ : Mo) (d : PyData) : Prop := ∃ (n : Nat) (mo : Option Nat), d = .tuple [natD n, oTagD mo] ∧ ∀ k, mo = some k → n ≤ k
def pMem (_ : Mo) (d : PyData) : Prop := ∃ (n : Nat) (mo : Option Nat), d = .tuple [natD n, oTagD mo] ∧ n ≤ 65536 ∧ ∀ k, mo = some k → n ≤ k ∧ k ≤ 65536
def pImp (M : Mo) (d : PyData) : Prop := ∃ (a b : Str) (w : PyData), d = .tuple [.str a, .str b, .str "memory", w] ∧ pMem M w
def pFun (M : Mo) (d : PyData) : Prop := ∃ (n : Nat) (a b : PyData), d = .tuple [natD n, a, b] ∧ n < M.sigs.length
def cst (n : Int) : PyData := .tuple [.str "i32.const", .int n]
def pVar (_ : Mo) (d : PyData) : Prop := ∃ (b : Bool) (n : Int), d = .tuple [.str "i32", .bool b, cst n]
def sp_signature_reason (K : PySem.W.Frag) (cs : Cs) : Sp := spF K cs pSig
def sp_tag_reason (K : PySem.W.Frag) (cs : Cs) : Sp := spF K cs pTag
def sp_table_reason (K : PySem.W.Frag) (cs : Cs) : Sp := spF K cs pTab
def sp_import_reason (K : PySem.W.Frag) (cs : Cs) : Sp := spF K cs pImp
def sp_memory_reason (K : PySem.W.Frag) (cs : Cs) : Sp := spF K cs pMem
def sp_function_reason (K : PySem.W.Frag) (cs : Cs) : Sp := spF K cs pFun
def sp_global_reason (K : PySem.W.Frag) (cs : Cs) : Sp := spF K cs pVar
def sp_constant_reason (K : PySem.W.Frag) (_cs : Cs) : Sp := fun vs H Q _ => ∃ (m v : V) (n : Int), vs = [m, v, .str "i32"] ∧ Dt K H v (cst n) ∧ Q .non H
def SF (K : PySem.W.Frag) (cs : Cs) (f : Addr) (sp : Sp) : Prop := (f = cs.f_function_reason ∧ sp = spF K cs pFun) ∨ (f = cs.f_table_reason ∧ sp = spF K cs pTab) ∨ (f = cs.f_memory_reason ∧ sp = spF K cs pMem) ∨ (f = cs.f_tag_reason ∧ sp = spF K cs pTag) ∨ (f = cs.f_global_reason ∧ sp = spF K cs pVar) ∨ (f = cs.f_import_reason ∧ sp = spF K cs pImp)
def sp_first_fault (K : PySem.W.Frag) (cs : Cs) : Sp := fun vs H Q _ => ∃ (m f : Addr) (M : Mo) (part : Str) (rv : V) (ds : List PyData) (p : Mo → PyData → Prop), vs = [.ref m, .str part, rv, .ref f] ∧ MoAt K cs H m M ∧ Dt K H rv (.tuple ds) ∧ (ds = [] ∨ SF K cs f (spF K cs p)) ∧ (∀ d ∈ ds, p M d) ∧ ∀ H', Same H H' → Q .non H'
def sp_memory_count_fault (K : PySem.W.Frag) (cs : Cs) : Sp := fun vs H Q _ => ∃ (m : Addr) (M : Mo), vs = [.ref m] ∧ MoAt K cs H m M ∧ M.small ∧ (memsD M).length ≤ 1 ∧ ∀ H', Same H H' → Q .non H'
def sp_export_fault (K : PySem.W.Frag) (cs : Cs) : Sp := fun vs H Q _ => ∃ (m : Addr) (M : Mo), vs = [.ref m] ∧ MoAt K cs H m M ∧ M.exps = .tuple [] ∧ ∀ H', Same H H' → Q .non H'
def sp_start_fault (K : PySem.W.Frag) (cs : Cs) : Sp := fun vs H Q _ => ∃ (m : Addr) (M : Mo), vs = [.ref m] ∧ MoAt K cs H m M ∧ M.start = .none ∧ Q .non H
/-- nothing but the code may be at fault -/
def Rest (M : Mo) : Prop := (∀ d ∈ M.imps.map impD, pImp M d) ∧ (∀ d ∈ M.tabs, pTab M d) ∧ (∀ d ∈ M.mems, pMem M d) ∧ (memsD M).length ≤ 1 ∧ (∀ d ∈ M.tags.map natD, pTag M d) ∧ (∀ d ∈ M.vars.map varD, pVar M d) ∧ M.exps = .tuple [] ∧ M.start = .none ∧ M.tsegs = .tuple [] ∧ M.msegs = .tuple []
def sp_check (K : PySem.W.Frag) (cs : Cs) : Sp := fun vs H Q _ => ∃ (m : Addr) (M : Mo) (fs : List Fn) (cf : Fn → Ctx), vs = [.ref m] ∧ MoAt K cs H m M ∧ M.small ∧ M.funs = fs.map fnM ∧
  (∀ f ∈ fs, ∃ sgn, M.sigs[f.1]? = some sgn ∧ CtxOf M sgn f.2.1 (cf f) ∧ CtxOk (cf f) ∧ (walkO 9 (cf f) f.2.2).2 ≠ some qq ∧ ((walkO 9 (cf f) f.2.2).2 ≠ none → (walkO 9 (cf f) f.2.2).1.seen ≠ [])) ∧ Rest M ∧
  ∀ v H', SL [] H H' → Dt K H' v (codeRes 0 (fs.map fun f => walkO 9 (cf f) f.2.2)) → Q v H'
section
variable {P : Program} {w : World} {K : PySem.W.Frag} {mg : Str → Option Value} {base : Heap} {cs : Cs}
theorem c_signature_reason (D : Def K mg "signature_reason" s_signature_reason ["module", "index"]) (T : Tp w K mg cs)  : Cal P w K mg base CX0 1 "signature_reason" (sp_signature_reason K cs) := by
  refine D.ok sc_signature_reason (fun vs H Q E h => ?_) (fun f cdv A outer s H vs Q E hr h => ?_)
  · obtain ⟨m, M, v, d, rfl, _⟩ := h; rfl
  · obtain ⟨m, M, v, d, rfl, hM, hv, ⟨n, rfl, hn⟩, q⟩ := h
    have v0 := hv.vint
    subst v0
    obtain ⟨dm, x0, x1, x2, x3, x4, x5, x6, x7, x8, x9, x10, hm, a0, _⟩ := id hM
    obtain ⟨sg, zs, rfl, hsg, hz⟩ := a0.vtup
    have lz := hz.len
    rw [List.length_map] at lz
    refine ⟨_, (pss_cons (ps_if (pt_cmpR op_ge (pv 1) (pe_callB call_len_seq (by rfl) T.m_len PySem.boot_len (pa_cons (pe_fld (pv 0) rfl) pa_nil)) (by first | rfl | exact nomark _)) (pss_one (ps_ret pe_str)) pss_nil)
      (pss_one (ps_ret pe_non))), ?_⟩
    walk_at "go"
    refine ⟨m, _, dm, _, _, rfl, hm, T.cl_Module, T.n_Module_signatures, lk_Module_signatures, ?_⟩
    walk_at "go"
    rw [lz]
    refine ite2 (fun cc => ?_) (fun cc => ?_)
    · exact absurd (of_decide_eq_true cc) (by omega)
    · walk_at "go"
      exact q _ (Same.refl _)
theorem c_tag_reason (D : Def K mg "tag_reason" s_tag_reason ["module", "index"]) (T : Tp w K mg cs)  : Cal P w K mg base CX0 1 "tag_reason" (sp_tag_reason K cs) := by
  refine D.ok sc_tag_reason (fun vs H Q E h => ?_) (fun f cdv A outer s H vs Q E hr h => ?_)
  · obtain ⟨m, M, v, d, rfl, _⟩ := h; rfl
  · obtain ⟨m, M, v, d, rfl, hM, hv, ⟨n, ps, rfl, hn⟩, q⟩ := h
    have v0 := hv.vint
    subst v0
    have ln : n < M.sigs.length := (List.getElem?_eq_some_iff.mp hn).1
    obtain ⟨dm, x0, x1, x2, x3, x4, x5, x6, x7, x8, x9, x10, hm, a0, _⟩ := id hM
    obtain ⟨sg, zs, rfl, hsg, hz⟩ := a0.vtup
    have lz := hz.len
    rw [List.length_map] at lz
    refine ⟨_, (pss_cons (ps_if (pt_cmpR op_ge (pv 1) (pe_callB call_len_seq (by rfl) T.m_len PySem.boot_len (pa_cons (pe_fld (pv 0) rfl) pa_nil)) (by first | rfl | exact nomark _)) (pss_one (ps_ret pe_str)) pss_nil)
      (pss_cons (ps_if (pt_cmpR op_gt (pe_callB call_len_seq (by rfl) T.m_len PySem.boot_len (pa_cons (pe_ix ix_tup (pe_ix ix_tup (pe_fld (pv 0) rfl) (pv 1) (fun _ _ => rfl)) pe_int (fun _ _ => rfl)) pa_nil)) pe_int (by first | rfl | exact nomark _)) (pss_one (ps_ret pe_str)) pss_nil)
      (pss_one (ps_ret pe_non)))), ?_⟩
    walk_at "go"
    refine ⟨m, _, dm, _, _, rfl, hm, T.cl_Module, T.n_Module_signatures, lk_Module_signatures, ?_⟩
    walk_at "go"
    rw [lz]
    refine ite2 (fun cc => ?_) (fun cc => ?_)
    · exact absurd (of_decide_eq_true cc) (by omega)
    walk_at "go"
    refine ⟨m, _, dm, _, _, rfl, hm, T.cl_Module, T.n_Module_signatures, lk_Module_signatures, ?_⟩
    walk_at "go"
    refine ix_D (k := n) (d := sgD (ps, [])) a0 (by rw [List.getElem?_map, hn]; rfl) fun u hu => ?_
    walk_at "go"
    refine tC_go ?_
    refine ix_D (k := 1) (d := tupS []) hu rfl fun u2 hu2 => ?_
    obtain ⟨ua, rfl, hua⟩ := hu2.sqS
    walk_at "go"
    exact q _ (Same.refl _)
theorem c_table_reason (D : Def K mg "table_reason" s_table_reason ["module", "limit"]) (T : Tp w K mg cs)  : Cal P w K mg base CX0 1 "table_reason" (sp_table_reason K cs) := by
  refine D.ok sc_table_reason (fun vs H Q E h => ?_) (fun f cdv A outer s H vs Q E hr h => ?_)
  · obtain ⟨m, M, v, d, rfl, _⟩ := h; rfl
  · obtain ⟨m, M, v, d, rfl, hM, hv, ⟨n, mo, rfl, hn⟩, q⟩ := h
    obtain ⟨a, y0, y1, rfl, ha, t0, t1⟩ := hv.two
    have v0 := t0.vint
    subst v0
    refine ⟨_, (pss_cons (ps_asg (pv 1) (pg_tup (by rfl) (pgs_cons (pg_name (i := 2) sc_table_reason.nd rfl (by first | exact Or.inl rfl | exact Or.inr rfl)) (pgs_cons (pg_name (i := 3) sc_table_reason.nd rfl (by first | exact Or.inl rfl | exact Or.inr rfl)) pgs_nil))))
      (pss_cons (ps_if (PW.pt (pw_and (pt_cmpR op_notN (pv 3) pe_non (by first | rfl | exact nomark _)) (pw_and1 (pt_cmpR op_gt (pv 2) (pv 3) (by first | rfl | exact nomark _))))) (pss_one (ps_ret pe_str)) pss_nil)
      (pss_one (ps_ret pe_non)))), ?_⟩
    cases mo with
    | none =>
      have v1 := t1.vnon
      subst v1
      walk_at "go"
      refine ⟨a, _, rfl, ha, rfl, ?_⟩
      walk_at "go"
      exact q _ (Same.refl _)
    | some k =>
      have v1 := t1.vint
      subst v1
      have hk := hn k rfl
      walk_at "go"
      refine ⟨a, _, rfl, ha, rfl, ?_⟩
      walk_at "go"
      refine ite2 (fun cc => ?_) (fun cc => ?_)
      · exact absurd (of_decide_eq_true cc) (by omega)
      walk_at "go"
      exact q _ (Same.refl _)
theorem c_memory_reason (D : Def K mg "memory_reason" s_memory_reason ["module", "limit"]) (T : Tp w K mg cs) (c_table_reason : Cal P w K mg base CX0 1 "table_reason" (sp_table_reason K cs)) : Cal P w K mg base CX0 2 "memory_reason" (sp_memory_reason K cs) := by
  refine D.ok sc_memory_reason (fun vs H Q E h => ?_) (fun f cdv A outer s H vs Q E hr h => ?_)
  · obtain ⟨m, M, v, d, rfl, _⟩ := h; rfl
  · obtain ⟨m, M, v, d, rfl, hM, hv, ⟨n, mo, rfl, hn, hk⟩, q⟩ := h
    have hq : ∃ (m' : Addr) (M' : Mo) (v' : V) (d' : PyData), [V.ref m, v] = [.ref m', v'] ∧ MoAt K cs H m' M' ∧ Dt K H v' d' ∧ pTab M' d' ∧ ∀ H', Same H H' → Q .non H' := ⟨m, M, v, _, rfl, hM, hv, ⟨n, mo, rfl, fun k e => (hk k e).1⟩, q⟩
    obtain ⟨a, y0, y1, rfl, ha, t0, t1⟩ := id hv.two
    have v0 := t0.vint
    subst v0
    refine ⟨_, (pss_cons (ps_asg (pv 1) (pg_tup (by rfl) (pgs_cons (pg_name (i := 2) sc_memory_reason.nd rfl (by first | exact Or.inl rfl | exact Or.inr rfl)) (pgs_cons (pg_name (i := 3) sc_memory_reason.nd rfl (by first | exact Or.inl rfl | exact Or.inr rfl)) pgs_nil))))
      (pss_cons (ps_if (PW.pt (pw_or (pt_cmpR op_gt (pv 2) (pe_gint (by rfl) T.i_MOST_PAGES) (by first | rfl | exact nomark _)) (pw_or1 (PW.pt (pw_and (pt_cmpR op_notN (pv 3) pe_non (by first | rfl | exact nomark _)) (pw_and1 (pt_cmpR op_gt (pv 3) (pe_gint (by rfl) T.i_MOST_PAGES) (by first | rfl | exact nomark _)))))))) (pss_one (ps_ret pe_str)) pss_nil)
      (pss_one (ps_ret (pe_c c_table_reason hr (by decide) (by rfl) (pa_cons (pv 0) (pa_cons (pv 1) pa_nil))))))), ?_⟩
    cases mo with
    | none =>
      have v1 := t1.vnon
      subst v1
      walk_at "go"
      refine ⟨a, _, rfl, ha, rfl, ?_⟩
      walk_at "go"
      refine ite2 (fun cc => ?_) (fun cc => ?_)
      · exact absurd (of_decide_eq_true cc) (by omega)
      walk_at "go"
      exact hq
    | some k =>
      have v1 := t1.vint
      subst v1
      have hk2 := (hk k rfl).2
      walk_at "go"
      refine ⟨a, _, rfl, ha, rfl, ?_⟩
      walk_at "go"
      refine ite2 (fun cc => ?_) (fun cc => ?_)
      · exact absurd (of_decide_eq_true cc) (by omega)
      walk_at "go"
      refine ite2 (fun cc => ?_) (fun cc => ?_)
      · exact absurd (of_decide_eq_true cc) (by omega)
      walk_at "go"
      exact hq
theorem c_import_reason (D : Def K mg "import_reason" s_import_reason ["module", "row"]) (T : Tp w K mg cs) (c_signature_reason : Cal P w K mg base CX0 1 "signature_reason" (sp_signature_reason K cs)) (c_tag_reason : Cal P w K mg base CX0 1 "tag_reason" (sp_tag_reason K cs)) (c_table_reason : Cal P w K mg base CX0 1 "table_reason" (sp_table_reason K cs)) (c_memory_reason : Cal P w K mg base CX0 2 "memory_reason" (sp_memory_reason K cs)) : Cal P w K mg base CX0 3 "import_reason" (sp_import_reason K cs) := by
  refine D.ok sc_import_reason (fun vs H Q E h => ?_) (fun f cdv A outer s H vs Q E hr h => ?_)
  · obtain ⟨m, M, v, d, rfl, _⟩ := h; rfl
  · obtain ⟨m, M, v, d, rfl, hM, hv, ⟨sa, sb, w', rfl, hp⟩, q⟩ := h
    refine ⟨_, (pss_cons (ps_asg (pe_slice sl_tup (pv 1) (po_some pe_int) po_none) (pg_tup (by rfl) (pgs_cons (pg_name (i := 2) sc_import_reason.nd rfl (by first | exact Or.inl rfl | exact Or.inr rfl)) (pgs_cons (pg_name (i := 3) sc_import_reason.nd rfl (by first | exact Or.inl rfl | exact Or.inr rfl)) pgs_nil))))
      (pss_cons (ps_if (pt_cmpR op_eq (pv 2) pe_str (by first | rfl | exact nomark _)) (pss_one (ps_ret (pe_c c_signature_reason hr (by decide) (by rfl) (pa_cons (pv 0) (pa_cons (pv 3) pa_nil))))) pss_nil)
      (pss_cons (ps_if (pt_cmpR op_eq (pv 2) pe_str (by first | rfl | exact nomark _)) (pss_one (ps_ret (pe_c c_tag_reason hr (by decide) (by rfl) (pa_cons (pv 0) (pa_cons (pv 3) pa_nil))))) pss_nil)
      (pss_cons (ps_if (pt_cmpR op_eq (pv 2) pe_str (by first | rfl | exact nomark _)) (pss_one (ps_ret (pe_c c_table_reason hr (by decide) (by rfl) (pa_cons (pv 0) (pa_cons (pv 3) pa_nil))))) pss_nil)
      (pss_cons (ps_if (pt_cmpR op_eq (pv 2) pe_str (by first | rfl | exact nomark _)) (pss_one (ps_ret (pe_c c_memory_reason hr (by decide) (by rfl) (pa_cons (pv 0) (pa_cons (pv 3) pa_nil))))) pss_nil)
      (pss_one (ps_ret pe_non))))))), ?_⟩
    walk_at "go"
    refine noP_go ?_
    refine sl_fromD (k := 2) hv (by decide) (by show 0 < 4; decide) fun p H1 s1 h1 => ?_
    obtain ⟨a, y0, y1, e, ha, t0, t1⟩ := Dt.two (d := .str "memory") (e := w') h1
    cases e
    have v0 := t0.vstr
    subst v0
    refine ⟨_, _, rfl, ha, rfl, ?_⟩
    refine ⟨_, _, rfl, _, _, rfl, rfl, ?_⟩
    walk_at "go"
    exact ⟨m, M, y1, w', rfl, hM.same s1, t1, hp, fun H' s => q H' (s1.trans s)⟩
theorem c_function_reason (D : Def K mg "function_reason" s_function_reason ["module", "function"]) (T : Tp w K mg cs) (c_signature_reason : Cal P w K mg base CX0 1 "signature_reason" (sp_signature_reason K cs)) : Cal P w K mg base CX0 2 "function_reason" (sp_function_reason K cs) := by
  refine D.ok sc_function_reason (fun vs H Q E h => ?_) (fun f cdv A outer s H vs Q E hr h => ?_)
  · obtain ⟨m, M, v, d, rfl, _⟩ := h; rfl
  · obtain ⟨m, M, v, d, rfl, hM, hv, ⟨n, a, b, rfl, hn⟩, q⟩ := h
    refine ⟨_, (pss_one (ps_ret (pe_c c_signature_reason hr (by decide) (by rfl) (pa_cons (pv 0) (pa_cons (pe_ix ix_tup (pv 1) pe_int (fun _ _ => rfl)) pa_nil))))), ?_⟩
    walk_at "go"
    refine ix_D (k := 0) hv rfl fun u hu => ?_
    walk_at "go"
    exact ⟨m, M, u, natD n, rfl, hM, hu, ⟨n, rfl, hn⟩, q⟩
theorem c_constant_reason (D : Def K mg "constant_reason" s_constant_reason ["module", "constant", "kind"]) (T : Tp w K mg cs) (c_imported_items : Cal P w K mg base CX0 1 "imported_items" (sp_imported_items K cs)) : Cal P w K mg base CX0 2 "constant_reason" (sp_constant_reason K cs) := by
  refine D.ok sc_constant_reason (fun vs H Q E h => ?_) (fun f cdv A outer s H vs Q E hr h => ?_)
  · obtain ⟨m, v, n, rfl, _⟩ := h; rfl
  · obtain ⟨m, v, n, rfl, hv, q⟩ := h
    obtain ⟨a, y0, y1, rfl, ha, t0, t1⟩ := hv.two
    have v0 := t0.vstr
    subst v0
    have v1 := t1.vint
    subst v1
    have ec : cutS "i32.const" none (some 3) = "i32" := by decide +kernel
    refine ⟨_, (pss_cons (ps_asg (pv 1) (pg_tup (by rfl) (pgs_cons (pg_name (i := 3) sc_constant_reason.nd rfl (by first | exact Or.inl rfl | exact Or.inr rfl)) (pgs_cons (pg_name (i := 4) sc_constant_reason.nd rfl (by first | exact Or.inl rfl | exact Or.inr rfl)) pgs_nil))))
      (pss_cons (ps_set (i := 5) sc_constant_reason.nd rfl (by first | exact Or.inl rfl | exact Or.inr rfl) (pe_slice sl_str (pv 3) po_none (po_some pe_int)))
      (C8.pss_cut (ps_if (pt_cmpR op_eq (pv 3) pe_str (by first | rfl | exact nomark _)) (pss_cons ps_never
      (pss_cons ps_never
      (pss_cons ps_never
      (pss_one ps_never)))) pss_nil)
      (pss_cons (ps_if (pt_cmpR op_ne (pv 5) (pv 2) (by first | rfl | exact nomark _)) (pss_one (ps_ret pe_str)) pss_nil)
      (pss_one (ps_ret pe_non)))))), ?_⟩
    walk_at "go"
    refine ⟨a, _, rfl, ha, rfl, ?_⟩
    refine ⟨_, _, rfl, _, _, rfl, rfl, ?_⟩
    walk_at "go"
    rw [ec]
    refine ⟨fun σ G => G = H ∧ ∃ o5 o6, σ = [some m, some (.ref a), some (.str "i32"), some (.str "i32.const"), some (.int n), some (.str "i32"), o5, o6], ?_, ?_⟩
    · walk_at "go"
      exact ⟨_, _, rfl⟩
    rintro _ _ ⟨rfl, o5, o6, rfl⟩
    walk_at "go"
    exact q
theorem c_global_reason (D : Def K mg "global_reason" s_global_reason ["module", "variable"]) (T : Tp w K mg cs) (c_constant_reason : Cal P w K mg base CX0 2 "constant_reason" (sp_constant_reason K cs)) : Cal P w K mg base CX0 3 "global_reason" (sp_global_reason K cs) := by
  refine D.ok sc_global_reason (fun vs H Q E h => ?_) (fun f cdv A outer s H vs Q E hr h => ?_)
  · obtain ⟨m, M, v, d, rfl, _⟩ := h; rfl
  · obtain ⟨m, M, v, d, rfl, hM, hv, ⟨b, n, rfl⟩, q⟩ := h
    obtain ⟨a, y0, y1, y2, rfl, ha, t0, t1, t2⟩ := hv.three
    have v0 := t0.vstr
    subst v0
    refine ⟨_, (pss_cons (ps_asg (pv 1) (pg_tup (by rfl) (pgs_cons (pg_name (i := 2) sc_global_reason.nd rfl (by first | exact Or.inl rfl | exact Or.inr rfl)) (pgs_cons (pg_name (i := 3) sc_global_reason.nd rfl (by first | exact Or.inl rfl | exact Or.inr rfl)) (pgs_cons (pg_name (i := 4) sc_global_reason.nd rfl (by first | exact Or.inl rfl | exact Or.inr rfl)) pgs_nil)))))
      (pss_one (ps_ret (pe_c c_constant_reason hr (by decide) (by rfl) (pa_cons (pv 0) (pa_cons (pv 4) (pa_cons (pv 2) pa_nil))))))), ?_⟩
    walk_at "go"
    refine ⟨a, _, rfl, ha, rfl, ?_⟩
    walk_at "go"
    exact ⟨_, _, n, rfl, t2, q _ (Same.refl _)⟩
theorem c_first_fault (D : Def K mg "first_fault" s_first_fault ["module", "part", "rows", "reason_of"]) (T : Tp w K mg cs) (c_import_reason : Cal P w K mg base CX0 3 "import_reason" (sp_import_reason K cs)) (c_function_reason : Cal P w K mg base CX0 2 "function_reason" (sp_function_reason K cs)) (c_table_reason : Cal P w K mg base CX0 1 "table_reason" (sp_table_reason K cs)) (c_memory_reason : Cal P w K mg base CX0 2 "memory_reason" (sp_memory_reason K cs)) (c_tag_reason : Cal P w K mg base CX0 1 "tag_reason" (sp_tag_reason K cs)) (c_global_reason : Cal P w K mg base CX0 3 "global_reason" (sp_global_reason K cs)) : Cal P w K mg base CX0 4 "first_fault" (sp_first_fault K cs) := by
  refine D.ok sc_first_fault (fun vs H Q E h => ?_) (fun f cdv A outer s H vs Q E hr h => ?_)
  · obtain ⟨m, f0, M, part, rv, ds, p, rfl, _⟩ := h; rfl
  · obtain ⟨m, f0, M, part, rv, ds, p, rfl, hM, hrv, hS, hp, q⟩ := h
    have A1 : ∀ f sp, SF K cs f sp → ∃ y, Cal P w K mg base CX0 3 y sp ∧ mg y = some (.ref f) := by
      intro f sp hS
      rcases hS with ⟨rfl, rfl⟩ | ⟨rfl, rfl⟩ | ⟨rfl, rfl⟩ | ⟨rfl, rfl⟩ | ⟨rfl, rfl⟩ | ⟨rfl, rfl⟩
      · exact ⟨_, c_function_reason.mono (by decide), T.h_function_reason⟩
      · exact ⟨_, c_table_reason.mono (by decide), T.h_table_reason⟩
      · exact ⟨_, c_memory_reason.mono (by decide), T.h_memory_reason⟩
      · exact ⟨_, c_tag_reason.mono (by decide), T.h_tag_reason⟩
      · exact ⟨_, c_global_reason.mono (by decide), T.h_global_reason⟩
      · exact ⟨_, c_import_reason.mono (by decide), T.h_import_reason⟩
    obtain ⟨ra, xs, rfl, hra, hxs⟩ := hrv.vtup
    have lx := hxs.len
    refine ⟨_, (pss_cons (ps_for PassesOwn.never rfl (pi_enumT (by rfl) T.m_enumerate (pa_cons (pv 2) pa_nil)) (pg_tup (by rfl) (pgs_cons (pg_name (i := 4) sc_first_fault.nd rfl (by first | exact Or.inl rfl | exact Or.inr rfl)) (pgs_cons (pg_name (i := 5) sc_first_fault.nd rfl (by first | exact Or.inl rfl | exact Or.inr rfl)) pgs_nil))) (pss_cons (ps_set (i := 6) sc_first_fault.nd rfl (by first | exact Or.inl rfl | exact Or.inr rfl) (pe_callT (i := 3) (S := SF K cs) (C := CX0) (E := E0) (k := 3) A1 hr (by decide) rfl (by first | exact Or.inl rfl | exact Or.inr rfl) pass0 (pa_cons (pv 0) (pa_cons (pv 5) pa_nil))))
      (pss_one (ps_if (pt_cmpR op_notN (pv 6) pe_non (by first | rfl | exact nomark _)) (pss_one (ps_ret (pe_tup (pa_cons (pv 1) (pa_cons (pv 4) (pa_cons (pv 6) (pa_cons pe_non (pa_cons pe_non pa_nil)))))))) pss_nil))))
      (pss_one (ps_ret pe_non))), ?_⟩
    walk_at "go"
    refine ⟨ra, xs, rfl, hra, for_enT (xs := xs) (fun i σ G => Same H G ∧ ∃ o4 o5 o6, σ = [some (.ref m), some (.str part), some (.ref ra), some (.ref f0), o4, o5, o6]) ⟨Same.refl _, _, _, _, rfl⟩ (fun i σ G _ h => Same.ti h.1 _ _ hra) ?_ ?_⟩
    · rintro i x t _ G hx ⟨s1, o4, o5, o6, rfl⟩ ht
      generalize e1 : upd G t _ = G1
      obtain ⟨s2, kt⟩ := newO ht e1
      clear e1
      have sH := s1.trans s2
      obtain ⟨d, ed, dx⟩ := (hxs.same sH).geti hx
      have hd := List.mem_of_getElem? ed
      have hS' : SF K cs f0 (spF K cs p) := by
        rcases hS with h | h
        · rw [h] at hd; cases hd
        · exact h
      refine ⟨t, _, rfl, SqT.of kt, rfl, ?_⟩
      refine ⟨_, _, rfl, _, _, rfl, rfl, ?_⟩
      refine ⟨f0, _, rfl, hS', ?_⟩
      walk_at "go"
      refine ⟨m, M, x, d, rfl, hM.same sH, dx, hp d hd, fun G2 s3 => ?_⟩
      have sH2 := sH.trans s3
      walk_at "go"
      exact ⟨_, _, _, rfl⟩
    · rintro _ G ⟨s1, o4, o5, o6, rfl⟩
      walk_at "go"
      exact q G s1
theorem c_memory_count_fault (D : Def K mg "memory_count_fault" s_memory_count_fault ["module"]) (T : Tp w K mg cs) (c_count_items : Cal P w K mg base CX0 4 "count_items" (sp_count_items K cs)) : Cal P w K mg base CX0 5 "memory_count_fault" (sp_memory_count_fault K cs) := by
  refine D.ok sc_memory_count_fault (fun vs H Q E h => ?_) (fun f cdv A outer s H vs Q E hr h => ?_)
  · obtain ⟨m, M, rfl, _⟩ := h; rfl
  · obtain ⟨m, M, rfl, hM, sm, h1, q⟩ := h
    refine ⟨_, (pss_cons (ps_if (pt_cmpR op_gt (pe_c c_count_items hr (by decide) (by rfl) (pa_cons (pv 0) (pa_cons pe_str pa_nil))) pe_int (by first | rfl | exact nomark _)) (pss_one (ps_ret (pe_tup (pa_cons pe_str (pa_cons pe_int (pa_cons pe_str (pa_cons pe_non (pa_cons pe_non pa_nil)))))))) pss_nil)
      (pss_one (ps_ret pe_non))), ?_⟩
    walk_at "go"
    refine ⟨m, M, "memory", memsD M, rfl, hM, sm, rfl, fun H1 s1 => ?_⟩
    walk_at "go"
    refine ite2 (fun cc => ?_) (fun cc => ?_)
    · exact absurd (of_decide_eq_true cc) (by omega)
    walk_at "go"
    exact q H1 s1
theorem c_export_fault (D : Def K mg "export_fault" s_export_fault ["module"]) (T : Tp w K mg cs)  : Cal P w K mg base CX0 1 "export_fault" (sp_export_fault K cs) := by
  refine D.ok sc_export_fault (fun vs H Q E h => ?_) (fun f cdv A outer s H vs Q E hr h => ?_)
  · obtain ⟨m, M, rfl, _⟩ := h; rfl
  · obtain ⟨m, M, rfl, hM, he, q⟩ := h
    obtain ⟨dm, x0, x1, x2, x3, x4, x5, x6, x7, x8, x9, x10, hm, a0, a1, a2, a3, a4, a5, a6, a7, _⟩ := id hM
    rw [he] at a7
    obtain ⟨ea, xs, rfl, hea, hxs⟩ := a7.vtup
    cases hxs
    refine ⟨_, (pss_cons (ps_set (i := 1) sc_export_fault.nd rfl (by first | exact Or.inl rfl | exact Or.inr rfl) pe_dnewK)
      (pss_cons (ps_for PassesOwn.never rfl (pi_enumT (by rfl) T.m_enumerate (pa_cons (pe_fld (pv 0) rfl) pa_nil)) (pg_tup (by rfl) (pgs_cons (pg_name (i := 2) sc_export_fault.nd rfl (by first | exact Or.inl rfl | exact Or.inr rfl)) (pgs_cons (pg_tup (by rfl) (pgs_cons (pg_name (i := 3) sc_export_fault.nd rfl (by first | exact Or.inl rfl | exact Or.inr rfl)) (pgs_cons (pg_name (i := 4) sc_export_fault.nd rfl (by first | exact Or.inl rfl | exact Or.inr rfl)) (pgs_cons (pg_name (i := 5) sc_export_fault.nd rfl (by first | exact Or.inl rfl | exact Or.inr rfl)) pgs_nil)))) pgs_nil))) (pss_cons ps_never
      (pss_cons ps_never
      (pss_cons ps_never
      (pss_one ps_never)))))
      (pss_one (ps_ret pe_non)))), ?_⟩
    intro nd hnd
    generalize e1 : upd H nd _ = H1
    obtain ⟨s1, k1⟩ := newO hnd e1
    clear e1
    walk_at "go"
    refine ⟨m, _, dm, _, _, rfl, s1 _ _ hm, T.cl_Module, T.n_Module_exports, lk_Module_exports, ?_⟩
    walk_at "go"
    refine ⟨ea, [], rfl, Same.ti s1 _ _ hea, for_enT (xs := []) (fun i σ G => Same H G) s1 (fun i σ G _ h => Same.ti h _ _ hea) ?_ ?_⟩
    · rintro i x t _ G hx
      cases hx
    · rintro _ G sG
      walk_at "go"
      exact q G sG
theorem c_start_fault (D : Def K mg "start_fault" s_start_fault ["module"]) (T : Tp w K mg cs) (c_first_fault : Cal P w K mg base CX0 4 "first_fault" (sp_first_fault K cs)) : Cal P w K mg base CX0 5 "start_fault" (sp_start_fault K cs) := by
  refine D.ok sc_start_fault (fun vs H Q E h => ?_) (fun f cdv A outer s H vs Q E hr h => ?_)
  · obtain ⟨m, M, rfl, _⟩ := h; rfl
  · obtain ⟨m, M, rfl, hM, he, q⟩ := h
    obtain ⟨dm, x0, x1, x2, x3, x4, x5, x6, x7, x8, x9, x10, hm, a0, a1, a2, a3, a4, a5, a6, a7, a8, _⟩ := id hM
    rw [he] at a8
    have v8 := a8.vnon
    subst v8
    refine ⟨_, (pss_cons (ps_if (pt_cmpR op_isN (pe_fld (pv 0) rfl) pe_non (by first | rfl | exact nomark _)) (pss_one (ps_ret pe_non)) pss_nil)
      (pss_one ps_never)), ?_⟩
    walk_at "go"
    refine ⟨m, _, dm, _, _, rfl, hm, T.cl_Module, T.n_Module_start, lk_Module_start, ?_⟩
    walk_at "go"
    exact q
theorem c_check (D : Def K mg "check" s_check ["module"]) (T : Tp w K mg cs) (c_first_fault : Cal P w K mg base CX0 4 "first_fault" (sp_first_fault K cs)) (c_memory_count_fault : Cal P w K mg base CX0 5 "memory_count_fault" (sp_memory_count_fault K cs)) (c_export_fault : Cal P w K mg base CX0 1 "export_fault" (sp_export_fault K cs)) (c_start_fault : Cal P w K mg base CX0 5 "start_fault" (sp_start_fault K cs)) (c_code_fault : Cal P w K mg base CX0 36 "code_fault" (sp_code_fault K cs)) : Cal P w K mg base CX0 37 "check" (sp_check K cs) := by
  refine D.ok sc_check (fun vs H Q E h => ?_) (fun f cdv A outer s H vs Q E hr h => ?_)
  · obtain ⟨m, M, fs, cf, rfl, _⟩ := h; rfl
  · obtain ⟨m, M, fs, cf, rfl, hM, sm, ef, hg, ⟨hi, hT, hMm, h1, hG, hV, hx, hst, hts, hms⟩, q⟩ := h
    obtain ⟨dm, x0, x1, x2, x3, x4, x5, x6, x7, x8, x9, x10, hm, a0, a1, a2, a3, a4, a5, a6, a7, a8, a9, a10⟩ := id hM
    rw [hts] at a9
    rw [hms] at a10
    have hF : ∀ d ∈ M.funs.map funD, pFun M d := fun d hd => by
      obtain ⟨f, hf, rfl⟩ := List.mem_map.mp hd
      rw [ef] at hf
      obtain ⟨f0, hf0, rfl⟩ := List.mem_map.mp hf
      obtain ⟨sgn, esg, _⟩ := hg f0 hf0
      exact ⟨f0.1, _, _, rfl, (List.getElem?_eq_some_iff.mp esg).1⟩
    refine ⟨_, (pss_one (ps_ret (pe_orT (pe_c c_first_fault hr (by decide) (by rfl) (pa_cons (pv 0) (pa_cons pe_str (pa_cons (pe_fld (pv 0) rfl) (pa_cons (pe_glob (v := .ref cs.f_import_reason) (by rfl) T.h_import_reason rfl) pa_nil))))) (pe_orT (pe_c c_first_fault hr (by decide) (by rfl) (pa_cons (pv 0) (pa_cons pe_str (pa_cons (pe_fld (pv 0) rfl) (pa_cons (pe_glob (v := .ref cs.f_function_reason) (by rfl) T.h_function_reason rfl) pa_nil))))) (pe_orT (pe_c c_first_fault hr (by decide) (by rfl) (pa_cons (pv 0) (pa_cons pe_str (pa_cons (pe_fld (pv 0) rfl) (pa_cons (pe_glob (v := .ref cs.f_table_reason) (by rfl) T.h_table_reason rfl) pa_nil))))) (pe_orT (pe_c c_first_fault hr (by decide) (by rfl) (pa_cons (pv 0) (pa_cons pe_str (pa_cons (pe_fld (pv 0) rfl) (pa_cons (pe_glob (v := .ref cs.f_memory_reason) (by rfl) T.h_memory_reason rfl) pa_nil))))) (pe_orT (pe_c c_memory_count_fault hr (by decide) (by rfl) (pa_cons (pv 0) pa_nil)) (pe_orT (pe_c c_first_fault hr (by decide) (by rfl) (pa_cons (pv 0) (pa_cons pe_str (pa_cons (pe_fld (pv 0) rfl) (pa_cons (pe_glob (v := .ref cs.f_tag_reason) (by rfl) T.h_tag_reason rfl) pa_nil))))) (pe_orT (pe_c c_first_fault hr (by decide) (by rfl) (pa_cons (pv 0) (pa_cons pe_str (pa_cons (pe_fld (pv 0) rfl) (pa_cons (pe_glob (v := .ref cs.f_global_reason) (by rfl) T.h_global_reason rfl) pa_nil))))) (pe_orT (pe_c c_export_fault hr (by decide) (by rfl) (pa_cons (pv 0) pa_nil)) (pe_orT (pe_c c_start_fault hr (by decide) (by rfl) (pa_cons (pv 0) pa_nil)) (pe_orT (pe_c c_first_fault hr (by decide) (by rfl) (pa_cons (pv 0) (pa_cons pe_str (pa_cons (pe_fld (pv 0) rfl) (pa_cons (pe_glob (v := .ref cs.f_table_segment_reason) (by rfl) T.h_table_segment_reason rfl) pa_nil))))) (pe_orT (pe_c c_first_fault hr (by decide) (by rfl) (pa_cons (pv 0) (pa_cons pe_str (pa_cons (pe_fld (pv 0) rfl) (pa_cons (pe_glob (v := .ref cs.f_memory_segment_reason) (by rfl) T.h_memory_segment_reason rfl) pa_nil))))) (pe_one (pe_c c_code_fault hr (by decide) (by rfl) (pa_cons (pv 0) pa_nil)))))))))))))))), ?_⟩
    walk_at "go"
    have S0 : Same H H := Same.refl H
    refine ⟨m, _, dm, _, _, rfl, S0 _ _ hm, T.cl_Module, T.n_Module_imports, lk_Module_imports, ?_⟩
    walk_at "go"
    refine ⟨m, _, M, _, x1, _, pImp, rfl, hM.same S0, a1.same S0, .inr (.inr (.inr (.inr (.inr (.inr ⟨rfl, rfl⟩))))), hi, fun H1 s1 => ?_⟩
    have S1 := S0.trans s1
    refine ⟨false, rfl, ?_⟩
    walk_at "go"
    refine ⟨m, _, dm, _, _, rfl, S1 _ _ hm, T.cl_Module, T.n_Module_functions, lk_Module_functions, ?_⟩
    walk_at "go"
    refine ⟨m, _, M, _, x2, _, pFun, rfl, hM.same S1, a2.same S1, .inr (.inl ⟨rfl, rfl⟩), hF, fun H2 s2 => ?_⟩
    have S2 := S1.trans s2
    refine ⟨false, rfl, ?_⟩
    walk_at "go"
    refine ⟨m, _, dm, _, _, rfl, S2 _ _ hm, T.cl_Module, T.n_Module_tables, lk_Module_tables, ?_⟩
    walk_at "go"
    refine ⟨m, _, M, _, x3, _, pTab, rfl, hM.same S2, a3.same S2, .inr (.inr (.inl ⟨rfl, rfl⟩)), hT, fun H3 s3 => ?_⟩
    have S3 := S2.trans s3
    refine ⟨false, rfl, ?_⟩
    walk_at "go"
    refine ⟨m, _, dm, _, _, rfl, S3 _ _ hm, T.cl_Module, T.n_Module_memories, lk_Module_memories, ?_⟩
    walk_at "go"
    refine ⟨m, _, M, _, x4, _, pMem, rfl, hM.same S3, a4.same S3, .inr (.inr (.inr (.inl ⟨rfl, rfl⟩))), hMm, fun H4 s4 => ?_⟩
    have S4 := S3.trans s4
    refine ⟨false, rfl, ?_⟩
    walk_at "go"
    refine ⟨m, M, rfl, hM.same S4, sm, h1, fun H5 s5 => ?_⟩
    have S5 := S4.trans s5
    refine ⟨false, rfl, ?_⟩
    walk_at "go"
    refine ⟨m, _, dm, _, _, rfl, S5 _ _ hm, T.cl_Module, T.n_Module_tags, lk_Module_tags, ?_⟩
    walk_at "go"
    refine ⟨m, _, M, _, x5, _, pTag, rfl, hM.same S5, a5.same S5, .inr (.inr (.inr (.inr (.inl ⟨rfl, rfl⟩)))), hG, fun H6 s6 => ?_⟩
    have S6 := S5.trans s6
    refine ⟨false, rfl, ?_⟩
    walk_at "go"
    refine ⟨m, _, dm, _, _, rfl, S6 _ _ hm, T.cl_Module, T.n_Module_variables, lk_Module_variables, ?_⟩
    walk_at "go"
    refine ⟨m, _, M, _, x6, _, pVar, rfl, hM.same S6, a6.same S6, .inr (.inr (.inr (.inr (.inr (.inl ⟨rfl, rfl⟩))))), hV, fun H7 s7 => ?_⟩
    have S7 := S6.trans s7
    refine ⟨false, rfl, ?_⟩
    walk_at "go"
    refine ⟨m, M, rfl, hM.same S7, hx, fun H8 s8 => ?_⟩
    have S8 := S7.trans s8
    refine ⟨false, rfl, ?_⟩
    walk_at "go"
    refine ⟨m, M, rfl, hM.same S8, hst, ?_⟩
    refine ⟨false, rfl, ?_⟩
    walk_at "go"
    refine ⟨m, _, dm, _, _, rfl, S8 _ _ hm, T.cl_Module, T.n_Module_table_segments, lk_Module_table_segments, ?_⟩
    walk_at "go"
    refine ⟨m, _, M, _, x9, [], pSig, rfl, hM.same S8, a9.same S8, .inl rfl, (fun _ z => nomatch z), fun H9 s9 => ?_⟩
    have S9 := S8.trans s9
    refine ⟨false, rfl, ?_⟩
    walk_at "go"
    refine ⟨m, _, dm, _, _, rfl, S9 _ _ hm, T.cl_Module, T.n_Module_memory_segments, lk_Module_memory_segments, ?_⟩
    walk_at "go"
    refine ⟨m, _, M, _, x10, [], pSig, rfl, hM.same S9, a10.same S9, .inl rfl, (fun _ z => nomatch z), fun H10 s10 => ?_⟩
    have S10 := S9.trans s10
    refine ⟨false, rfl, ?_⟩
    walk_at "go"
    exact ⟨m, M, fs, cf, rfl, hM.same S10, sm, ef, hg, fun v H' s hv => q v H' ((Same.sl S10).trans s) hv⟩
theorem chk_end : True := trivial
end

/-! ### the state that laws draw from: digits, a place, a seed -/
def StA (H : Hp) (p : Addr) (k : Nat) : Prop := ∃ (d : Addr) (ds : List Int) (sd : Int), H p = some (.lst [.ref d, .int (k : Int), .int sd]) ∧ H d = some (.lst (ds.map V.int)) ∧ p ≠ d ∧ ds.length ≤ 4000
def sp__law_state (K : PySem.W.Frag) (_cs : Cs) : Sp := fun vs H Q _ => ∃ (a : Addr) (ns : List Int), vs = [.ref a] ∧ SqL K H a (ns.map V.int) ∧ ns.length ≤ 63 ∧ ∀ p H', Same H H' → H p = none → StA H' p 0 → Q (.ref p) H'
def sp__law_draw (_K : PySem.W.Frag) (_cs : Cs) : Sp := fun vs H Q _ => ∃ (p : Addr) (k m : Nat), vs = [.ref p, .int (m : Int)] ∧ StA H p k ∧ k ≤ 100000 ∧ 0 < m ∧ m ≤ 1000000 ∧ ∀ (v : Nat) H', v < m → SameBut [p] H H' → StA H' p (k + 1) → Q (.int (v : Int)) H'
theorem mod_nat (i : Int) {m : Nat} (hm : 0 < m) : ∃ v : Nat, i % (m : Int) = (v : Int) ∧ v < m := by
  refine ⟨(i % (m : Int)).toNat, ?_, ?_⟩
  · have := Int.emod_nonneg i (show (m : Int) ≠ 0 by omega); omega
  · have := Int.emod_nonneg i (show (m : Int) ≠ 0 by omega)
    have := Int.emod_lt_of_pos i (show (0 : Int) < m by omega)
    omega
theorem StA.same {H H' : Hp} {p : Addr} {k : Nat} (e : Same H H') (h : StA H p k) : StA H' p k := by
  obtain ⟨d, ds, sd, h1, h2, h3, h4⟩ := h
  exact ⟨d, ds, sd, e _ _ h1, e _ _ h2, h3, h4⟩
theorem StA.ti {K : PySem.W.Frag} {H H' : Hp} {p : Addr} {k : Nat} (h : StA H p k) (s : SameBut [p] H H') : Ti K H H' := fun a xs q => by
  obtain ⟨d, ds, sd, h1, _⟩ := h
  rcases q with (q | ⟨b, q⟩) | q
  · exact .inl (.inl (s _ _ (fun z => by rw [List.mem_singleton.mp z, h1] at q; cases q) q))
  · exact .inl (.inr ⟨b, s _ _ (fun z => by rw [List.mem_singleton.mp z, h1] at q; cases q) q⟩)
  · exact .inr q
section
variable {P : Program} {w : World} {K : PySem.W.Frag} {mg : Str → Option Value} {base : Heap} {cs : Cs}
theorem c__law_state (D : Def K mg "_law_state" s__law_state ["script"]) (T : Tp w K mg cs)  : Cal P w K mg base CX0 1 "_law_state" (sp__law_state K cs) := by
  refine D.ok sc__law_state (fun vs H Q E h => ?_) (fun f cdv A outer s H vs Q E hr h => ?_)
  · obtain ⟨a, ns, rfl, _⟩ := h; rfl
  · obtain ⟨a, ns, rfl, hS, hlen, q⟩ := h
    refine ⟨_, (pss_cons (ps_set (i := 1) sc__law_state.nd rfl (by first | exact Or.inl rfl | exact Or.inr rfl) (pe_lst pa_nil))
      (pss_cons (ps_set (i := 2) sc__law_state.nd rfl (by first | exact Or.inl rfl | exact Or.inr rfl) pe_int)
      (pss_cons (ps_for PassesOwn.never rfl (pi_list (pv 0)) (pg_name (i := 3) sc__law_state.nd rfl (by first | exact Or.inl rfl | exact Or.inr rfl)) (pss_cons (ps_set (i := 4) sc__law_state.nd rfl (by first | exact Or.inl rfl | exact Or.inr rfl) (pe_callB call_abs (by rfl) T.m_abs (by decide +kernel) (pa_cons (pv 3) pa_nil)))
      (pss_cons (ps_set (i := 2) sc__law_state.nd rfl (by first | exact Or.inl rfl | exact Or.inr rfl) (pe_op op_mod (pe_callTy call_int1 (by rfl) T.m_int (by decide +kernel) (pa_cons (pe_op op_add (pe_op op_add (pe_op op_mul (pv 2) pe_int) (pv 4)) pe_int) pa_nil)) pe_int))
      (pss_one (ps_for PassesOwn.never rfl (pi_range1 (by rfl) T.m_range (pa_cons pe_int pa_nil)) (pg_name (i := 5) sc__law_state.nd rfl (by first | exact Or.inl rfl | exact Or.inr rfl)) (pss_one (ps_if (PW.pt (pw_or (pt_cmpR op_gt (pv 4) pe_int (by first | rfl | exact nomark _)) (pw_or1 (pt_cmpR op_eq (pv 5) pe_int (by first | rfl | exact nomark _))))) (pss_cons (ps_expr (pe_bm PySem.F.plainAttrs_list PySem.F.slot_list_append PySem.F.type_list_append mt_append (pv 1) (pa_cons (pe_op op_mod (pe_callTy call_int1 (by rfl) T.m_int (by decide +kernel) (pa_cons (pv 4) pa_nil)) pe_int) pa_nil)))
      (pss_one (ps_set (i := 4) sc__law_state.nd rfl (by first | exact Or.inl rfl | exact Or.inr rfl) (pe_op op_fdiv (pv 4) pe_int)))) pss_nil)))))))
      (pss_one (ps_ret (pe_lst (pa_cons (pv 1) (pa_cons pe_int (pa_cons (pv 2) pa_nil))))))))), ?_⟩
    walk_at "go"
    intro D hD
    generalize e1 : upd H D (.lst []) = H1
    obtain ⟨s1, k1⟩ : Same H H1 ∧ H1 D = some (.lst (([] : List Int).map V.int)) := by subst e1; exact ⟨Same.new hD, upd_same⟩
    clear e1
    refine ⟨_, rfl, a, rfl, ⟨_, s1.seq hS⟩, for_listD (xs := ns.map V.int) (fun i σ H2 => ∃ (ds : List Int) (sd : Int) (o3 o4 o5 : Option V), σ = [some (.ref a), some (.ref D), some (.int sd), o3, o4, o5] ∧ ds.length ≤ 60 * i ∧ Same H H2 ∧ H2 D = some (.lst (ds.map V.int)))
      ⟨[], 7, _, _, _, rfl, Nat.zero_le _, s1, k1⟩ (fun i σ H2 _ h => by obtain ⟨ds, sd, o3, o4, o5, _, _, s2, _⟩ := h; exact s2.seq hS) ?_ ?_⟩
    · rintro i x _ H2 hx ⟨ds, sd, o3, o4, o5, rfl, hl, s2, k2⟩
      obtain ⟨n, rfl⟩ : ∃ n, x = .int n := by
        rw [List.getElem?_map] at hx
        cases e : ns[i]? with
        | none => rw [e] at hx; cases hx
        | some k => rw [e] at hx; cases hx; exact ⟨k, rfl⟩
      have hi : i < ns.length := by
        have := (List.getElem?_eq_some_iff.mp hx).1
        rw [List.length_map] at this; exact this
      walk_at "go"
      refine for_rangeD (lo := 0) (n := 60) (fun j σ H3 => ∃ (ds' : List Int) (sd' r : Int) (o5 : Option V), σ = [some (.ref a), some (.ref D), some (.int sd'), some (.int n), some (.int r), o5] ∧ ds'.length ≤ 60 * i + j ∧ Same H H3 ∧ H3 D = some (.lst (ds'.map V.int)))
        ⟨ds, _, _, _, rfl, hl, s2, k2⟩ ?_ ?_
      · rintro j _ H3 hj ⟨ds', sd', r, o5, rfl, hl', s3, k3⟩
        refine tor_b (decide (0 < r)) (decide (V.int (0 + (j : Int)) = V.int 0)) (fun Q q => ?_) (fun Q q => ?_) ?_
        · walk_at "go"
          exact q
        · walk_at "go"
          exact q
        refine ite2 (fun _ => ?_) (fun _ => ?_)
        · walk_at "go"
          refine ⟨.inl ⟨rfl, _, SqL.of k3⟩, ?_⟩
          walk_at "go"
          refine ⟨_, _, _, rfl, rfl, k3, (by rw [List.length_map]; exact small64' (by omega)), ?_⟩
          walk_at "go"
          refine ⟨ds' ++ [r % 1000], _, _, _, rfl, by rw [List.length_append, List.length_singleton]; omega, fun b o e => ?_, ?_⟩
          · rw [upd_ne (ne_of_none e hD)]; exact s3 _ _ e
          · rw [upd_same, List.map_append]; rfl
        · exact ⟨ds', sd', r, _, rfl, by omega, s3, k3⟩
      · rintro _ H3 ⟨ds', sd', r, o5, rfl, hl', s3, k3⟩
        exact ⟨ds', sd', _, _, _, rfl, by omega, s3, k3⟩
    · rintro _ H2 ⟨ds, sd, o3, o4, o5, rfl, hl, s2, k2⟩
      rw [List.length_map] at hl
      walk_at "go"
      intro p hp
      refine q p _ (s2.trans (Same.new hp)) (none_of s2 hp) ⟨D, ds, sd, upd_same, Same.new hp _ _ k2, (fun z => by subst z; rw [k2] at hp; cases hp), by omega⟩
theorem c__law_draw (D : Def K mg "_law_draw" s__law_draw ["state", "many"]) (T : Tp w K mg cs)  : Cal P w K mg base CX0 1 "_law_draw" (sp__law_draw K cs) := by
  refine D.ok sc__law_draw (fun vs H Q E h => ?_) (fun f cdv A outer s H vs Q E hr h => ?_)
  · obtain ⟨p, k, m, rfl, _⟩ := h; rfl
  · obtain ⟨p, k, m, rfl, ⟨d, ds, sd, h1, h2, npd, hl⟩, hk, hm, hm2, q⟩ := h
    refine ⟨_, (pss_cons (ps_set (i := 2) sc__law_draw.nd rfl (by first | exact Or.inl rfl | exact Or.inr rfl) (pe_ix ix_list (pv 0) pe_int (fun _ _ => rfl)))
      (pss_cons (ps_asg (pe_op op_add (pv 2) pe_int) (pg_sub (pv 0) pe_int set_list))
      (pss_cons (ps_set (i := 3) sc__law_draw.nd rfl (by first | exact Or.inl rfl | exact Or.inr rfl) (pe_ix ix_list (pv 0) pe_int (fun _ _ => rfl)))
      (pss_cons (ps_if (pt_cmpR op_lt (pv 2) (pe_callB call_len_seq (by rfl) T.m_len PySem.boot_len (pa_cons (pv 3) pa_nil)) (by first | rfl | exact nomark _)) (pss_one (ps_ret (pe_op op_mod (pe_callTy call_int1 (by rfl) T.m_int (by decide +kernel) (pa_cons (pe_ix ix_list (pv 3) (pv 2) (fun _ _ => rfl)) pa_nil)) (pv 1)))) pss_nil)
      (pss_cons (ps_asg (pe_op op_mod (pe_callTy call_int1 (by rfl) T.m_int (by decide +kernel) (pa_cons (pe_op op_add (pe_op op_add (pe_op op_mul (pe_ix ix_list (pv 0) pe_int (fun _ _ => rfl)) pe_int) (pe_op op_mul (pv 2) pe_int)) pe_int) pa_nil)) pe_int) (pg_sub (pv 0) pe_int set_list))
      (pss_one (ps_ret (pe_op op_mod (pe_callTy call_int1 (by rfl) T.m_int (by decide +kernel) (pa_cons (pe_op op_fdiv (pe_ix ix_list (pv 0) pe_int (fun _ _ => rfl)) pe_int) pa_nil)) (pv 1))))))))), ?_⟩
    walk_at "go"
    refine ⟨p, _, _, _, rfl, rfl, SqL.of h1, rfl, ?_⟩
    walk_at "go"
    generalize e1 : upd H p _ = H1
    have k1 : H1 p = some (.lst [.ref d, .int ((k + 1 : Nat) : Int), .int sd]) := by rw [← e1]; exact upd_same
    have k2 : H1 d = some (.lst (ds.map V.int)) := by rw [← e1]; exact (upd_ne npd.symm).trans h2
    have b1 : SameBut [p] H H1 := by rw [← e1]; exact (SameBut.refl H).upd (List.mem_singleton.mpr rfl)
    clear e1
    refine tC_go ?_
    refine ⟨p, _, _, _, rfl, rfl, SqL.of k1, rfl, ?_⟩
    walk_at "go"
    refine ⟨d, _, rfl, .inl (SqL.of k2), ?_⟩
    walk_at "go"
    rw [List.length_map]
    refine ite2 (fun cc => ?_) (fun cc => ?_)
    · have c' : k < ds.length := by have := of_decide_eq_true cc; omega
      walk_at "go"
      refine ⟨d, _, k, _, rfl, rfl, SqL.of k2, at_ints c', ?_⟩
      walk_at "go"
      obtain ⟨v, ev, hv⟩ := mod_nat (ds.getD k 0) hm
      show Q (.int (ds.getD k 0 % (m : Int))) H1
      rw [ev]
      exact q v H1 hv b1 ⟨d, ds, sd, k1, k2, npd, hl⟩
    · walk_at "go"
      refine tC_go ?_
      refine ⟨p, _, _, _, rfl, rfl, SqL.of k1, rfl, ?_⟩
      walk_at "go"
      generalize e2 : upd H1 p _ = H2
      have k12 : H2 p = some (.lst [.ref d, .int ((k + 1 : Nat) : Int), .int ((sd * 48271 + (k : Int) * 69621 + 11) % 2147483647)]) := by rw [← e2]; exact upd_same
      have k22 : H2 d = some (.lst (ds.map V.int)) := by rw [← e2]; exact (upd_ne npd.symm).trans k2
      have b2 : SameBut [p] H H2 := by rw [← e2]; exact b1.upd (List.mem_singleton.mpr rfl)
      clear e2
      generalize (sd * 48271 + (k : Int) * 69621 + 11) % 2147483647 = sd2 at k12
      refine tC_go ?_
      refine ⟨p, _, _, _, rfl, rfl, SqL.of k12, rfl, ?_⟩
      walk_at "go"
      obtain ⟨v, ev, hv⟩ := mod_nat (sd2 / 1009) hm
      show Q (.int (sd2 / 1009 % (m : Int))) H2
      rw [ev]
      exact q v H2 hv b2 ⟨d, ds, sd2, k12, k22, npd, hl⟩
theorem lst_end : True := trivial
end

/-! ### written trees of tuples -/
def AllR : List (V → Hp → Prop) → List V → Hp → Prop
  | [], vs, _ => vs = []
  | R :: Rs, vs, H => ∃ v r, vs = v :: r ∧ R v H ∧ AllR Rs r H
section
variable {K : PySem.W.Frag} {σ : L2.St} {H0 : Hp}
def Lit (K : PySem.W.Frag) (σ : L2.St) (H0 : Hp) (t : TE) (d : PyData) : Prop := ∀ (H : Hp) (Q : VK), Same H0 H → (∀ v H', Same H H' → Dt K H' v d → Q v H') → t σ H Q
def LitA (K : PySem.W.Frag) (σ : L2.St) (H0 : Hp) (t : TA) (ds : List PyData) : Prop := ∀ (H : Hp) (Q : List V → Hp → Prop), Same H0 H → (∀ vs H', Same H H' → DtA K H' vs ds → Q vs H') → t σ H Q
theorem Lit.str {z : Str} : Lit K σ H0 (tC (.str z)) (.str z) := fun H _ _ q => q _ H (Same.refl _) (.str _)
theorem Lit.int {i : Int} : Lit K σ H0 (tC (.int i)) (.int i) := fun H _ _ q => q _ H (Same.refl _) (.int _)
theorem Lit.bl {b : Bool} : Lit K σ H0 (tC (.bl b)) (.bool b) := fun H _ _ q => q _ H (Same.refl _) (.bl _)
theorem Lit.non : Lit K σ H0 (tC .non) .none := fun H _ _ q => q _ H (Same.refl _) .non
theorem Lit.var {i : Nat} {v : V} {d : PyData} (h : σ[i]? = some (some v)) (hd : Dt K H0 v d) : Lit K σ H0 (tVar i) d := fun H _ s q => ⟨v, h, q v H (Same.refl _) (hd.same s)⟩
theorem LitA.nil : LitA K σ H0 tNil [] := fun H _ _ q => q [] H (Same.refl _) .nil
theorem LitA.cons {t : TE} {ts : TA} {d : PyData} {ds : List PyData} (h : Lit K σ H0 t d) (a : LitA K σ H0 ts ds) : LitA K σ H0 (tCons t ts) (d :: ds) := fun H _ s q => h H _ s fun v H1 s1 hv => a H1 _ (s.trans s1) fun vs H2 s2 hvs => q (v :: vs) H2 (s1.trans s2) (.cons (hv.same s2) hvs)
theorem Lit.tup {ts : TA} {ds : List PyData} (a : LitA K σ H0 ts ds) (hl : ds.length ≤ 1000000) : Lit K σ H0 (tTup ts) (.tuple ds) := fun H _ s q => a H _ s fun vs H1 s1 hvs =>
  ⟨small64 (by rw [hvs.len]; exact hl), fun p hp => q _ _ (s1.trans (Same.new hp)) (.tup (SqT.of upd_same) (hvs.same (Same.new hp)))⟩
theorem Lit.seq {t : TE} {i : Nat} {b : TS} {D : Ends} {d : PyData} {H : Hp} (h : Lit K σ H t d) (k : ∀ v H1, Same H H1 → Dt K H1 v d → b D (σ.set i (some v)) H1) : tSeq (tAsg t (gName i)) b D σ H := h H _ (Same.refl _) fun v H1 s hv => k v H1 s hv
theorem Lit.asg {t : TE} {i : Nat} {D : Ends} {d : PyData} {H : Hp} (h : Lit K σ H t d) (k : ∀ v H1, Same H H1 → Dt K H1 v d → D.nx (σ.set i (some v)) H1) : tAsg t (gName i) D σ H := h H _ (Same.refl _) fun v H1 s hv => k v H1 s hv
theorem Lit.ret {t : TE} {D : Ends} {d : PyData} {H : Hp} (h : Lit K σ H t d) (k : ∀ v H1, Same H H1 → Dt K H1 v d → D.rt v H1) : tRet t D σ H := h H _ (Same.refl _) fun v H1 s hv => k v H1 s hv
/-- lists of such trees -/
def LitR (σ : L2.St) (H0 : Hp) (t : TE) (R : V → Hp → Prop) : Prop := ∀ (H : Hp) (Q : VK), Same H0 H → (∀ v H', Same H H' → R v H' → Q v H') → t σ H Q
def LitRA (σ : L2.St) (H0 : Hp) (t : TA) (Rs : List (V → Hp → Prop)) : Prop := ∀ (H : Hp) (Q : List V → Hp → Prop), Same H0 H → (∀ vs H', Same H H' → AllR Rs vs H' → Q vs H') → t σ H Q
def RowL (K : PySem.W.Frag) (ds : List PyData) (v : V) (H : Hp) : Prop := ∃ l xs, v = .ref l ∧ H l = some (.lst xs) ∧ DtA K H xs ds
theorem RowL.mono {ds : List PyData} {v : V} {H H' : Hp} (s : Same H H') (h : RowL K ds v H) : RowL K ds v H' := by
  obtain ⟨l, xs, e, h1, h2⟩ := h; exact ⟨l, xs, e, s _ _ h1, h2.same s⟩
theorem LitR.row {ts : TA} {ds : List PyData} (a : LitA K σ H0 ts ds) (hl : ds.length ≤ 1000000) : LitR σ H0 (tLst ts) (RowL K ds) := fun H _ s q => a H _ s fun vs H1 s1 hvs =>
  ⟨small64 (by rw [hvs.len]; exact hl), fun p hp => q _ _ (s1.trans (Same.new hp)) ⟨p, vs, rfl, upd_same, hvs.same (Same.new hp)⟩⟩
theorem LitRA.nil : LitRA σ H0 tNil [] := fun H _ _ q => q [] H (Same.refl _) rfl
theorem LitRA.cons {t : TE} {ts : TA} {R : V → Hp → Prop} {Rs : List (V → Hp → Prop)} (m : ∀ v H H', Same H H' → R v H → R v H') (h : LitR σ H0 t R) (a : LitRA σ H0 ts Rs) : LitRA σ H0 (tCons t ts) (R :: Rs) := fun H _ s q => h H _ s fun v H1 s1 hv => a H1 _ (s.trans s1) fun vs H2 s2 hvs => q (v :: vs) H2 (s1.trans s2) ⟨v, vs, rfl, m v H1 H2 s2 hv, hvs⟩
end
local macro_rules | `(tactic| walk_at "lit1") => `(tactic| first
  | exact Lit.str
  | exact Lit.int
  | exact Lit.non
  | exact Lit.bl
  | exact LitA.nil
  | (refine Lit.var rfl ?_; assumption)
  | refine Lit.tup ?_ ?_
  | refine LitA.cons ?_ ?_
  | exact Nat.le_of_ble_eq_true rfl)
local macro_rules | `(tactic| walk_at "lit") => `(tactic| repeat' walk_at "lit1")

/-! ### a module's maker -/
def sp_Module___init__ (K : PySem.W.Frag) (cs : Cs) : Sp := fun vs H Q _ => ∃ (p dx : Addr) (x0 x1 x2 x3 x4 x5 x6 x7 x8 x9 x10 : V), vs = [.ref p, x0, x1, x2, x3, x4, x5, x6, x7, x8, x9, x10] ∧ H p = some (.ins cs.C_Module dx []) ∧ ∀ H', Stp K p H H' → H' p = some (.ins cs.C_Module dx (fs_Module x0 x1 x2 x3 x4 x5 x6 x7 x8 x9 x10)) → Q .non H'
section
variable {P : Program} {w : World} {K : PySem.W.Frag} {mg : Str → Option Value} {base : Heap} {cs : Cs}
theorem c_Module___init__ (D : DefK K (Cs.C_Module cs) "Module.__init__" s_Module___init__ (kws_Module cs)) (T : Tp w K mg cs)  : CalK P w K mg base CX0 (Cs.C_Module cs) 1 (sp_Module___init__ K cs) ["signatures", "imports", "functions", "memories"] (fun vs zs => vs ++ mixK [true, true, true, false, true, false, false, false, false, false, false] zs ((ms_Module cs).map (·.2))) := by
  refine D.okM [true, true, true, false, true, false, false, false, false, false, false] sc_Module___init__ ["signatures", "imports", "functions", "memories"] (ms_Module cs) (List.cons_ne_nil _ _) (sub_Module cs) chain_Module (fun vs H Q E h => ?_) (fun f cdv A outer s H vs Q E hr h => ?_)
  · obtain ⟨p, dx, x0, x1, x2, x3, x4, x5, x6, x7, x8, x9, x10, rfl, _⟩ := h; rfl
  · obtain ⟨p, dx, x0, x1, x2, x3, x4, x5, x6, x7, x8, x9, x10, rfl, hp, q⟩ := h
    refine ⟨_, (pss_cons (ps_fld (pv 0) (pv 1) rfl)
      (pss_cons (ps_fld (pv 0) (pv 2) rfl)
      (pss_cons (ps_fld (pv 0) (pv 3) rfl)
      (pss_cons (ps_fld (pv 0) (pv 4) rfl)
      (pss_cons (ps_fld (pv 0) (pv 5) rfl)
      (pss_cons (ps_fld (pv 0) (pv 6) rfl)
      (pss_cons (ps_fld (pv 0) (pv 7) rfl)
      (pss_cons (ps_fld (pv 0) (pv 8) rfl)
      (pss_cons (ps_fld (pv 0) (pv 9) rfl)
      (pss_cons (ps_fld (pv 0) (pv 10) rfl)
      (pss_one (ps_fld (pv 0) (pv 11) rfl)))))))))))), ?_⟩
    refine ⟨_, rfl, _, rfl, p, _, dx, _, rfl, hp, T.cl_Module, T.n_Module_signatures, (by show 0 < 1000; decide), ?_⟩
    rw [in_Module_0 (x0 := x0) (x1 := x1) (x2 := x2) (x3 := x3) (x4 := x4) (x5 := x5) (x6 := x6) (x7 := x7) (x8 := x8) (x9 := x9) (x10 := x10)]
    have S1 := (Stp.refl (K := K) (p := p) (H := H)).put (C' := cs.C_Module) (dx' := dx) (fs' := [("signatures", x0)]) hp
    generalize g1 : upd H p _ = H1 at S1
    have k1 : H1 p = some (.ins cs.C_Module dx [("signatures", x0)]) := by rw [← g1]; exact upd_same
    clear g1
    refine ⟨_, rfl, _, rfl, p, _, dx, _, rfl, k1, T.cl_Module, T.n_Module_imports, (by show 1 < 1000; decide), ?_⟩
    rw [in_Module_1 (x0 := x0) (x1 := x1) (x2 := x2) (x3 := x3) (x4 := x4) (x5 := x5) (x6 := x6) (x7 := x7) (x8 := x8) (x9 := x9) (x10 := x10)]
    have S2 := S1.put (C' := cs.C_Module) (dx' := dx) (fs' := [("signatures", x0), ("imports", x1)]) k1
    generalize g2 : upd H1 p _ = H2 at S2
    have k2 : H2 p = some (.ins cs.C_Module dx [("signatures", x0), ("imports", x1)]) := by rw [← g2]; exact upd_same
    clear g2
    refine ⟨_, rfl, _, rfl, p, _, dx, _, rfl, k2, T.cl_Module, T.n_Module_functions, (by show 2 < 1000; decide), ?_⟩
    rw [in_Module_2 (x0 := x0) (x1 := x1) (x2 := x2) (x3 := x3) (x4 := x4) (x5 := x5) (x6 := x6) (x7 := x7) (x8 := x8) (x9 := x9) (x10 := x10)]
    have S3 := S2.put (C' := cs.C_Module) (dx' := dx) (fs' := [("signatures", x0), ("imports", x1), ("functions", x2)]) k2
    generalize g3 : upd H2 p _ = H3 at S3
    have k3 : H3 p = some (.ins cs.C_Module dx [("signatures", x0), ("imports", x1), ("functions", x2)]) := by rw [← g3]; exact upd_same
    clear g3
    refine ⟨_, rfl, _, rfl, p, _, dx, _, rfl, k3, T.cl_Module, T.n_Module_tables, (by show 3 < 1000; decide), ?_⟩
    rw [in_Module_3 (x0 := x0) (x1 := x1) (x2 := x2) (x3 := x3) (x4 := x4) (x5 := x5) (x6 := x6) (x7 := x7) (x8 := x8) (x9 := x9) (x10 := x10)]
    have S4 := S3.put (C' := cs.C_Module) (dx' := dx) (fs' := [("signatures", x0), ("imports", x1), ("functions", x2), ("tables", x3)]) k3
    generalize g4 : upd H3 p _ = H4 at S4
    have k4 : H4 p = some (.ins cs.C_Module dx [("signatures", x0), ("imports", x1), ("functions", x2), ("tables", x3)]) := by rw [← g4]; exact upd_same
    clear g4
    refine ⟨_, rfl, _, rfl, p, _, dx, _, rfl, k4, T.cl_Module, T.n_Module_memories, (by show 4 < 1000; decide), ?_⟩
    rw [in_Module_4 (x0 := x0) (x1 := x1) (x2 := x2) (x3 := x3) (x4 := x4) (x5 := x5) (x6 := x6) (x7 := x7) (x8 := x8) (x9 := x9) (x10 := x10)]
    have S5 := S4.put (C' := cs.C_Module) (dx' := dx) (fs' := [("signatures", x0), ("imports", x1), ("functions", x2), ("tables", x3), ("memories", x4)]) k4
    generalize g5 : upd H4 p _ = H5 at S5
    have k5 : H5 p = some (.ins cs.C_Module dx [("signatures", x0), ("imports", x1), ("functions", x2), ("tables", x3), ("memories", x4)]) := by rw [← g5]; exact upd_same
    clear g5
    refine ⟨_, rfl, _, rfl, p, _, dx, _, rfl, k5, T.cl_Module, T.n_Module_tags, (by show 5 < 1000; decide), ?_⟩
    rw [in_Module_5 (x0 := x0) (x1 := x1) (x2 := x2) (x3 := x3) (x4 := x4) (x5 := x5) (x6 := x6) (x7 := x7) (x8 := x8) (x9 := x9) (x10 := x10)]
    have S6 := S5.put (C' := cs.C_Module) (dx' := dx) (fs' := [("signatures", x0), ("imports", x1), ("functions", x2), ("tables", x3), ("memories", x4), ("tags", x5)]) k5
    generalize g6 : upd H5 p _ = H6 at S6
    have k6 : H6 p = some (.ins cs.C_Module dx [("signatures", x0), ("imports", x1), ("functions", x2), ("tables", x3), ("memories", x4), ("tags", x5)]) := by rw [← g6]; exact upd_same
    clear g6
    refine ⟨_, rfl, _, rfl, p, _, dx, _, rfl, k6, T.cl_Module, T.n_Module_variables, (by show 6 < 1000; decide), ?_⟩
    rw [in_Module_6 (x0 := x0) (x1 := x1) (x2 := x2) (x3 := x3) (x4 := x4) (x5 := x5) (x6 := x6) (x7 := x7) (x8 := x8) (x9 := x9) (x10 := x10)]
    have S7 := S6.put (C' := cs.C_Module) (dx' := dx) (fs' := [("signatures", x0), ("imports", x1), ("functions", x2), ("tables", x3), ("memories", x4), ("tags", x5), ("variables", x6)]) k6
    generalize g7 : upd H6 p _ = H7 at S7
    have k7 : H7 p = some (.ins cs.C_Module dx [("signatures", x0), ("imports", x1), ("functions", x2), ("tables", x3), ("memories", x4), ("tags", x5), ("variables", x6)]) := by rw [← g7]; exact upd_same
    clear g7
    refine ⟨_, rfl, _, rfl, p, _, dx, _, rfl, k7, T.cl_Module, T.n_Module_exports, (by show 7 < 1000; decide), ?_⟩
    rw [in_Module_7 (x0 := x0) (x1 := x1) (x2 := x2) (x3 := x3) (x4 := x4) (x5 := x5) (x6 := x6) (x7 := x7) (x8 := x8) (x9 := x9) (x10 := x10)]
    have S8 := S7.put (C' := cs.C_Module) (dx' := dx) (fs' := [("signatures", x0), ("imports", x1), ("functions", x2), ("tables", x3), ("memories", x4), ("tags", x5), ("variables", x6), ("exports", x7)]) k7
    generalize g8 : upd H7 p _ = H8 at S8
    have k8 : H8 p = some (.ins cs.C_Module dx [("signatures", x0), ("imports", x1), ("functions", x2), ("tables", x3), ("memories", x4), ("tags", x5), ("variables", x6), ("exports", x7)]) := by rw [← g8]; exact upd_same
    clear g8
    refine ⟨_, rfl, _, rfl, p, _, dx, _, rfl, k8, T.cl_Module, T.n_Module_start, (by show 8 < 1000; decide), ?_⟩
    rw [in_Module_8 (x0 := x0) (x1 := x1) (x2 := x2) (x3 := x3) (x4 := x4) (x5 := x5) (x6 := x6) (x7 := x7) (x8 := x8) (x9 := x9) (x10 := x10)]
    have S9 := S8.put (C' := cs.C_Module) (dx' := dx) (fs' := [("signatures", x0), ("imports", x1), ("functions", x2), ("tables", x3), ("memories", x4), ("tags", x5), ("variables", x6), ("exports", x7), ("start", x8)]) k8
    generalize g9 : upd H8 p _ = H9 at S9
    have k9 : H9 p = some (.ins cs.C_Module dx [("signatures", x0), ("imports", x1), ("functions", x2), ("tables", x3), ("memories", x4), ("tags", x5), ("variables", x6), ("exports", x7), ("start", x8)]) := by rw [← g9]; exact upd_same
    clear g9
    refine ⟨_, rfl, _, rfl, p, _, dx, _, rfl, k9, T.cl_Module, T.n_Module_table_segments, (by show 9 < 1000; decide), ?_⟩
    rw [in_Module_9 (x0 := x0) (x1 := x1) (x2 := x2) (x3 := x3) (x4 := x4) (x5 := x5) (x6 := x6) (x7 := x7) (x8 := x8) (x9 := x9) (x10 := x10)]
    have S10 := S9.put (C' := cs.C_Module) (dx' := dx) (fs' := [("signatures", x0), ("imports", x1), ("functions", x2), ("tables", x3), ("memories", x4), ("tags", x5), ("variables", x6), ("exports", x7), ("start", x8), ("table_segments", x9)]) k9
    generalize g10 : upd H9 p _ = H10 at S10
    have k10 : H10 p = some (.ins cs.C_Module dx [("signatures", x0), ("imports", x1), ("functions", x2), ("tables", x3), ("memories", x4), ("tags", x5), ("variables", x6), ("exports", x7), ("start", x8), ("table_segments", x9)]) := by rw [← g10]; exact upd_same
    clear g10
    refine ⟨_, rfl, _, rfl, p, _, dx, _, rfl, k10, T.cl_Module, T.n_Module_memory_segments, (by show 10 < 1000; decide), ?_⟩
    rw [in_Module_10 (x0 := x0) (x1 := x1) (x2 := x2) (x3 := x3) (x4 := x4) (x5 := x5) (x6 := x6) (x7 := x7) (x8 := x8) (x9 := x9) (x10 := x10)]
    have S11 := S10.put (C' := cs.C_Module) (dx' := dx) (fs' := [("signatures", x0), ("imports", x1), ("functions", x2), ("tables", x3), ("memories", x4), ("tags", x5), ("variables", x6), ("exports", x7), ("start", x8), ("table_segments", x9), ("memory_segments", x10)]) k10
    generalize g11 : upd H10 p _ = H11 at S11
    have k11 : H11 p = some (.ins cs.C_Module dx [("signatures", x0), ("imports", x1), ("functions", x2), ("tables", x3), ("memories", x4), ("tags", x5), ("variables", x6), ("exports", x7), ("start", x8), ("table_segments", x9), ("memory_segments", x10)]) := by rw [← g11]; exact upd_same
    clear g11
    exact q _ S11 k11
end
/-- C(x = .., ..) of written trees -/
theorem LitA.make {K : PySem.W.Frag} {σ : L2.St} {H : Hp} {C : Addr} {m : Nat} {sp : Sp} {gV : List V → List V → List V} {E : XK} {ts : TA} {Q : VK} {ds : List PyData} (h : LitA K σ H ts ds)
    (k : ∀ zs H1, Same H H1 → DtA K H1 zs ds → zs.length = m ∧ ∀ x dx, H1 x = none → H1 dx = none → dx ≠ x → sp (gV [.ref x] zs) (upd (upd H1 dx (.own x)) x (.ins C dx [])) (fun v H3 => v = .non ∧ Q (.ref x) H3) E) :
    tMakeK C 0 m sp gV E tNil ts σ H Q := h H _ (Same.refl _) fun zs H1 s1 hz => ⟨rfl, (k zs H1 s1 hz).1, (k zs H1 s1 hz).2⟩
theorem Lit.run2 {t : TE} {g : TG} {b : TS} {D : Ends} {σ : L2.St} {H : Hp} (h : t σ H fun x H1 => g x σ H1 (b D)) : ({ nx := tSeq (tAsg t g) b D, rt := D.rt } : Ends).nx σ H := h

theorem ix_Di {K : PySem.W.Frag} {H : Hp} {Q : VK} {x : V} {ds : List PyData} {k : Nat} {i : Int} {d : PyData} (ei : i = (k : Int)) (h : Dt K H x (.tuple ds)) (e : ds[k]? = some d) (q : ∀ v, Dt K H v d → Q v H) : L2.rIxT K x (.int i) H Q := by
  subst ei; exact ix_D h e q
structure Case where
  i : Ins
  ts : List Str
  ps : List Str
  fits : Bool

def takesR (r : Acc) : List Str := if r.2.2.2 = true then ["i32"] else ["i32", r.2.2.1]
def putsR (r : Acc) : List Str := if r.2.2.2 = true then [r.2.2.1] else []
def accOf (r : Acc) (e m : Nat) : Case := ⟨.i2 r.1 (e : Int) (m : Int), takesR r, putsR r, decide (e ≤ r.2.1)⟩
def mems38 : List Case := [⟨.i0 "memory.size", [], ["i32"], true⟩, ⟨.i0 "memory.grow", ["i32"], ["i32"], true⟩, ⟨.i0 "memory.fill", ["i32", "i32", "i32"], [], true⟩, ⟨.i0 "memory.copy", ["i32", "i32", "i32"], [], true⟩]
def Case.ok (C : Case) : Prop := (∃ r ∈ accT, ∃ e m : Nat, e < 32 ∧ C = accOf r e m) ∨ C ∈ mems38
def accD (r : Acc) : PyData := .tuple [.str r.1, natD r.2.1]
def sp__law_access (K : PySem.W.Frag) (_cs : Cs) : Sp := fun vs H Q _ => ∃ (n : Nat) (r : Acc), vs = [.int (n : Int)] ∧ accT[n]? = some r ∧ ∀ l H' tv pv, Same H H' → H' l = some (.lst [.str r.1, .int (r.2.1 : Int), tv, pv]) → Dt K H' tv (tupS (takesR r)) → Dt K H' pv (tupS (putsR r)) → Q (.ref l) H'
def sp__law_case (K : PySem.W.Frag) (_cs : Cs) : Sp := fun vs H Q _ => ∃ (st : Addr) (k : Nat), vs = [.ref st] ∧ StA H st k ∧ k ≤ 1000 ∧ ∀ (C : Case) l H' iv tv pv k', C.ok → H' l = some (.lst [iv, tv, pv, .bl C.fits]) → Dt K H' iv (insD C.i) → Dt K H' tv (tupS C.ts) → Dt K H' pv (tupS C.ps) → StA H' st k' → k' ≤ 1005 → Q (.ref l) H'
/-! the menu of k38 -/
def impsM (q : Nat) : List (Str × Str × Str × PyData) := if q = 0 then [("a", "m", "memory", .tuple [natD 0, .none])] else []
def memsM (q : Nat) : List PyData := if q = 1 ∨ q = 2 then [.tuple [natD 0, natD 0]] else []
def cx38 (q : Nat) : Ctx := ⟨[], [], [([], [])], [0], [], [], 0, if q = 3 then 0 else 1⟩
def dropI : Ins := .i0 "drop"
def constI (k : Str) : Ins := .i1 (k ++ ".const") 0
def pre38 (w : Bool) (ts : List Str) : List Str := if (!w && decide (0 < ts.length)) = true then ts.drop 1 else ts
def codeOf (w : Bool) (C : Case) : List Ins := (pre38 w C.ts).map constI ++ C.i :: C.ps.map fun _ => dropI
def reason38 (q : Nat) (C : Case) (w : Bool) : Option Str := if q = 3 then some "unknown memory" else if C.fits = false then some "alignment too large" else if (pre38 w C.ts).length < C.ts.length then some kmm else none
def optR : Option Str → V
  | none => .non
  | some r => .str r
def expD38 (q : Nat) (C : Case) (w : Bool) : PyData := match reason38 q C w with
  | none => .none
  | some r => .tuple [.str "code", .int 0, .str r, .int ((pre38 w C.ts).length : Int), .tuple [tupS (pre38 w C.ts), .bool false]]
def chk38 (q : Nat) (C : Case) (w : Bool) : Bool := kdsOk C.ts && decide (C.ts.length ≤ 10) && decide (C.ps.length ≤ 10) && match (walkO 9 (cx38 q) (codeOf w C)).2, reason38 q C w with
  | none, none => true
  | some e, some r => decide (e = r) && decide (e ≠ qq) && PyData.strOk e && decide ((walkO 9 (cx38 q) (codeOf w C)).1.seen.length = (pre38 w C.ts).length + 1) && (match (walkO 9 (cx38 q) (codeOf w C)).1.seen.getLast? with | some (ks, dd) => decide (ks = (pre38 w C.ts).map some) && !dd | none => false)
  | _, _ => false
def all38 : Bool := (List.range 4).all fun q => [true, false].all fun w => (mems38.all fun C => chk38 q C w) && accT.all fun r => (List.range 32).all fun e => chk38 q (accOf r e 0) w
theorem t38 : all38 = true := by decide +kernel
/-- the number behind the exponent counts for nothing -/
theorem eff2_m {c : Ctx} {r : Acc} (hr : r ∈ accT) (n m : Nat) : eff2 c r.1 n m = eff2 c r.1 n 0 := by
  have ck := acc_chk r hr
  unfold accChk at ck
  rw [Bool.and_eq_true, Bool.and_eq_true, Bool.not_eq_true'] at ck
  unfold eff2
  rw [if_neg (of_decide_eq_false ck.1.2), if_neg (of_decide_eq_false ck.1.2)]
theorem ins_m {rec : Wk → List Ins → List Str → List Str → List Str → Out} {c : Ctx} {r : Acc} (hr : r ∈ accT) (e m : Nat) (w : Wk) : insO rec c w (.i2 r.1 (e : Int) (m : Int)) = insO rec c w (.i2 r.1 (e : Int) 0) := by
  rw [insO, insO, if_pos ⟨Int.natCast_nonneg e, Int.natCast_nonneg m⟩, if_pos ⟨Int.natCast_nonneg e, Int.le_refl 0⟩, Int.toNat_natCast, Int.toNat_natCast, eff2_m hr]
  rfl
theorem listO_at {f : Wk → Ins → Out} {i j : Ins} (h : ∀ w, f w i = f w j) : ∀ (pre post : List Ins) (w : Wk), listO f w (pre ++ i :: post) = listO f w (pre ++ j :: post)
  | [], post, w => by
    show listO f w (i :: post) = listO f w (j :: post)
    rw [listO, listO]
    congr 1
    funext w
    rw [h]
  | k :: r, post, w => by
    show listO f w (k :: (r ++ i :: post)) = listO f w (k :: (r ++ j :: post))
    rw [listO, listO]
    congr 1
    funext w
    congr 1
    funext w
    exact listO_at h r post w
theorem walk_at2 {c : Ctx} {i j : Ins} (h : ∀ rec w, insO rec c w i = insO rec c w j) (pre post : List Ins) : walkO 9 c (pre ++ i :: post) = walkO 9 c (pre ++ j :: post) := by
  unfold walkO
  rw [bodyO, bodyO]
  have hl : (pre ++ i :: post).length = (pre ++ j :: post).length := by simp
  rw [hl]
  split
  · congr 1
    funext w
    congr 1
    exact listO_at (h _) pre post w
  · rfl
theorem chk_at {q : Nat} {C : Case} (hC : C.ok) (hq : q < 4) (w : Bool) : chk38 q C w = true := by
  have h := t38
  unfold all38 at h
  have h := List.all_eq_true.mp h q (List.mem_range.mpr hq)
  have h := List.all_eq_true.mp h w (by cases w <;> simp)
  rw [Bool.and_eq_true] at h
  rcases hC with ⟨r, hr, e, m, he, rfl⟩ | hC
  · have h2 := List.all_eq_true.mp (List.all_eq_true.mp h.2 r hr) e (List.mem_range.mpr he)
    have ew : walkO 9 (cx38 q) (codeOf w (accOf r e m)) = walkO 9 (cx38 q) (codeOf w (accOf r e 0)) := walk_at2 (fun rec w => ins_m hr e m w) _ _
    unfold chk38 at h2 ⊢
    rw [ew]
    exact h2
  · exact List.all_eq_true.mp h.1 C hC
def fs38 (b : List Ins) : List Fn := [(0, [], b)]
def M38 (q : Nat) (b : List Ins) : Mo := ⟨[([], [])], impsM q, (fs38 b).map fnM, [], memsM q, [], [], .tuple [], .none, .tuple [], .tuple []⟩
theorem M38_small {q : Nat} (hq : q < 4) (b : List Ins) : (M38 q b).small := by
  have : q = 0 ∨ q = 1 ∨ q = 2 ∨ q = 3 := by omega
  refine ⟨?_, by show 1 ≤ 1000; decide, by show 0 ≤ 1000; decide, ?_, by show 0 ≤ 1000; decide, by show 0 ≤ 1000; decide⟩
  · rcases this with rfl | rfl | rfl | rfl <;> exact Nat.le_of_ble_eq_true rfl
  · rcases this with rfl | rfl | rfl | rfl <;> exact Nat.le_of_ble_eq_true rfl
theorem M38_ctx {q : Nat} (hq : q < 4) (b : List Ins) : CtxOf (M38 q b) ([], []) [] (cx38 q) := by
  have : q = 0 ∨ q = 1 ∨ q = 2 ∨ q = 3 := by omega
  rcases this with rfl | rfl | rfl | rfl <;> exact ⟨by show 0 ≤ 1000; decide, rfl, rfl, rfl, rfl, rfl, rfl, rfl, rfl⟩
theorem M38_rest {q : Nat} (hq : q < 4) (b : List Ins) : Rest (M38 q b) := by
  have : q = 0 ∨ q = 1 ∨ q = 2 ∨ q = 3 := by omega
  refine ⟨fun d hd => ?_, (fun _ z => nomatch z), fun d hd => ?_, ?_, (fun _ z => nomatch z), (fun _ z => nomatch z), rfl, rfl, rfl, rfl⟩
  · rcases this with rfl | rfl | rfl | rfl
    · have hd : d ∈ [PyData.tuple [.str "a", .str "m", .str "memory", .tuple [natD 0, .none]]] := hd
      rw [List.mem_singleton.mp hd]
      exact ⟨_, _, _, rfl, 0, none, rfl, by decide, fun _ z => nomatch z⟩
    · cases hd
    · cases hd
    · cases hd
  · have hd : d ∈ memsM q := hd
    unfold memsM at hd
    split at hd
    · rw [List.mem_singleton.mp hd]
      exact ⟨0, some 0, rfl, by decide, fun k e => by cases e; decide⟩
    · cases hd
  · rcases this with rfl | rfl | rfl | rfl <;> exact Nat.le_of_ble_eq_true rfl
theorem law_data {q : Nat} {C : Case} {w : Bool} (hC : C.ok) (hq : q < 4) :
    (∀ f ∈ fs38 (codeOf w C), ∃ sgn, (M38 q (codeOf w C)).sigs[f.1]? = some sgn ∧ CtxOf (M38 q (codeOf w C)) sgn f.2.1 (cx38 q) ∧ CtxOk (cx38 q) ∧ (walkO 9 (cx38 q) f.2.2).2 ≠ some qq ∧ ((walkO 9 (cx38 q) f.2.2).2 ≠ none → (walkO 9 (cx38 q) f.2.2).1.seen ≠ [])) ∧
    codeRes 0 ((fs38 (codeOf w C)).map fun f => walkO 9 (cx38 q) f.2.2) = expD38 q C w ∧ SeqAt.shaped (expD38 q C w) = true ∧ kdsOk C.ts = true ∧ C.ts.length ≤ 10 ∧ C.ps.length ≤ 10 := by
  have hk := chk_at hC hq w
  unfold chk38 at hk
  rw [Bool.and_eq_true, Bool.and_eq_true, Bool.and_eq_true] at hk
  obtain ⟨⟨⟨hkd, hl1⟩, hl2⟩, hk⟩ := hk
  have hl1 := of_decide_eq_true hl1
  have hl2 := of_decide_eq_true hl2
  have hkp : kdsOk (pre38 w C.ts) = true := by
    unfold pre38
    split
    · unfold kdsOk at hkd ⊢
      rw [List.all_eq_true] at hkd ⊢
      exact fun k hk => hkd k (List.mem_of_mem_drop hk)
    · exact hkd
  have c0 := M38_ctx hq (codeOf w C)
  have o0 : CtxOk (cx38 q) := ⟨fun s hs => by rw [List.mem_singleton.mp hs]; exact ⟨by decide, by decide⟩, by show 0 ≤ 1000; decide⟩
  have ec : codeRes 0 ((fs38 (codeOf w C)).map fun f => walkO 9 (cx38 q) f.2.2) = match (walkO 9 (cx38 q) (codeOf w C)).2 with | none => .none | some e => .tuple [.str "code", natD 0, .str e, .int (((walkO 9 (cx38 q) (codeOf w C)).1.seen.length : Int) - 1), seenD ((walkO 9 (cx38 q) (codeOf w C)).1.seen.getLast?.getD ([], false))] := by
    show codeRes 0 [walkO 9 (cx38 q) (codeOf w C)] = _
    rw [codeRes]
    cases (walkO 9 (cx38 q) (codeOf w C)).2 with
    | none => rfl
    | some e => rfl
  rw [ec]
  unfold expD38
  generalize eo : walkO 9 (cx38 q) (codeOf w C) = out at hk
  have goal1 : out.2 ≠ some qq → (out.2 ≠ none → out.1.seen ≠ []) → (∀ f ∈ fs38 (codeOf w C), ∃ sgn, (M38 q (codeOf w C)).sigs[f.1]? = some sgn ∧ CtxOf (M38 q (codeOf w C)) sgn f.2.1 (cx38 q) ∧ CtxOk (cx38 q) ∧ (walkO 9 (cx38 q) f.2.2).2 ≠ some qq ∧ ((walkO 9 (cx38 q) f.2.2).2 ≠ none → (walkO 9 (cx38 q) f.2.2).1.seen ≠ [])) := fun h1 h2 f hf => by
    rw [List.mem_singleton.mp hf]
    exact ⟨_, rfl, c0, o0, by rw [eo]; exact h1, by rw [eo]; exact h2⟩
  obtain ⟨wk, o⟩ := out
  cases o with
  | none =>
    cases er : reason38 q C w with
    | none => exact ⟨goal1 (fun z => nomatch z) (fun z => absurd rfl z), rfl, by show SeqAt.shaped .none = true; simp [SeqAt.shaped, PyData.canLay0, PyData.depth], hkd, hl1, hl2⟩
    | some pl => rw [er] at hk; cases hk
  | some e =>
    cases er : reason38 q C w with
    | none => rw [er] at hk; cases hk
    | some rr =>
      rw [er] at hk
      dsimp only at hk
      rw [Bool.and_eq_true, Bool.and_eq_true, Bool.and_eq_true, Bool.and_eq_true] at hk
      obtain ⟨⟨⟨⟨k1, k0⟩, ks⟩, k2⟩, k3⟩ := hk
      have k1e := of_decide_eq_true k1
      have k0e := of_decide_eq_true k0
      have k2e := of_decide_eq_true k2
      clear k1 k0 k2
      subst k1e
      cases el : wk.seen.getLast? with
      | none => rw [el] at k3; cases k3
      | some z =>
        obtain ⟨kk, dd⟩ := z
        rw [el] at k3
        have k3 : (decide (kk = (pre38 w C.ts).map some) && !dd) = true := k3
        rw [Bool.and_eq_true] at k3
        have k4 := of_decide_eq_true k3.1
        have k5 : dd = false := by cases dd with
          | false => rfl
          | true => cases k3.2
        subst k4
        subst k5
        refine ⟨goal1 (fun z => k0e (Option.some.inj z)) (fun _ z => by rw [z] at el; cases el), ?_, ?_, hkd, hl1, hl2⟩
        · show PyData.tuple [.str "code", natD 0, .str e, .int ((wk.seen.length : Int) - 1), seenD ((pre38 w C.ts).map some, false)] = .tuple [.str "code", .int 0, .str e, .int ((pre38 w C.ts).length : Int), .tuple [tupS (pre38 w C.ts), .bool false]]
          rw [k2e, show ((((pre38 w C.ts).length + 1 : Nat) : Int) - 1) = ((pre38 w C.ts).length : Int) by omega, kds_tupS]
          rfl
        · show SeqAt.shaped (.tuple [.str "code", .int 0, .str e, .int ((pre38 w C.ts).length : Int), .tuple [tupS (pre38 w C.ts), .bool false]]) = true
          obtain ⟨a1, a2⟩ := lay_kds hkp
          have s1 : PyData.strOk "code" = true := by decide +kernel
          unfold SeqAt.shaped tupS
          rw [Bool.and_eq_true]
          refine ⟨?_, decide_eq_true ?_⟩
          · simp [PyData.canLay0, PyData.canLayAll0, a1, s1, ks]
          · simp [PyData.depth, PyData.depthAll]
            omega
def argD38 (q : Nat) (b : List Ins) : List PyData := [.tuple (([([], [])] : List (List Str × List Str)).map sgD), .tuple ((impsM q).map impD), .tuple ((M38 q b).funs.map funD), .tuple (memsM q)]
def sp_lawK (K : PySem.W.Frag) : Sp := fun vs H Q _ => ∃ (a : Addr) (ns : List Int), vs = [.ref a] ∧ SqL K H a (ns.map V.int) ∧ ns.length ≤ 63 ∧ ∀ H', Q (.bl true) H'
abbrev sp_law (K : PySem.W.Frag) (_ : Cs) : Sp := sp_lawK K
theorem acc_nat : ∀ r ∈ accT, r.2.1 ≤ 3 := by decide +kernel
def caseD (C : Case) : List PyData := [insD C.i, tupS C.ts, tupS C.ps, .bool C.fits]
def RowsV (K : PySem.W.Frag) (v : V) (H : Hp) : Prop := ∃ l xs, v = .ref l ∧ H l = some (.lst xs) ∧ AllR (mems38.map fun C => RowL K (caseD C)) xs H
theorem LitR.asg {K : PySem.W.Frag} {σ : L2.St} {t : TE} {Q : VK} {H : Hp} (h : LitR σ H t (RowsV K)) (k : ∀ v H1, Same H H1 → RowsV K v H1 → Q v H1) : t σ H Q := h H _ (Same.refl _) fun v H1 s hv => k v H1 s hv
theorem Lit.asg2 {K : PySem.W.Frag} {σ : L2.St} {t : TE} {g : TG} {D : Ends} {d : PyData} {H : Hp} (h : Lit K σ H t d) (k : ∀ v H1, Same H H1 → Dt K H1 v d → g v σ H1 D.nx) : tAsg t g D σ H := h H _ (Same.refl _) fun v H1 s hv => k v H1 s hv
theorem Lit.run3 {t : TE} {g : TG} {b : TS} {D : Ends} {σ : L2.St} {H : Hp} (h : t σ H fun x H1 => g x σ H1 (b D)) : tSeq (tAsg t g) b D σ H := h
theorem Lit.tupl {K : PySem.W.Frag} {σ : L2.St} {H0 : Hp} {i : Nat} {cl : Addr} {xs : List V} {ds : List PyData} {R : List V → Hp → VK → Prop} (h : σ[i]? = some (some (.ref cl))) (hc : H0 cl = some (.lst xs)) (hd : DtA K H0 xs ds) (hR : ∀ H Q, SqL K H cl xs → (∀ l, H l = none → Q (.ref l) (upd H l (.tup xs))) → R [.ref cl] H Q) : Lit K σ H0 (tCB R (tCons (tVar i) tNil)) (.tuple ds) := fun H Q s q =>
  ⟨.ref cl, h, hR H _ (SqL.of (s _ _ hc)) fun l hl => q _ _ (Same.new hl) (.tup (SqT.of upd_same) ((hd.same s).same (Same.new hl)))⟩
theorem next_go {D : Ends} {σ : L2.St} {H : Hp} (h : D.nx σ H) : tNext D σ H := h
theorem allR_mono {K : PySem.W.Frag} : ∀ (Cs : List Case) (xs : List V) {H H' : Hp}, Same H H' → AllR (Cs.map fun C => RowL K (caseD C)) xs H → AllR (Cs.map fun C => RowL K (caseD C)) xs H'
  | [], _, _, _, _, h => h
  | _ :: r, _, _, _, s, h => by obtain ⟨v, q, e, a, b⟩ := h; exact ⟨v, q, e, a.mono s, allR_mono r q s b⟩
theorem allR_get {K : PySem.W.Frag} : ∀ (Cs : List Case) (xs : List V) {H : Hp} {k : Nat} {C : Case}, AllR (Cs.map fun C => RowL K (caseD C)) xs H → Cs[k]? = some C → ∃ v, xs[k]? = some v ∧ RowL K (caseD C) v H
  | [], _, _, _, _, _, e => by cases e
  | C0 :: r, _, _, 0, _, h, e => by
    obtain ⟨v, q, rfl, a, b⟩ := h
    cases e
    exact ⟨v, rfl, a⟩
  | _ :: r, _, _, k + 1, _, h, e => by
    obtain ⟨v, q, rfl, a, b⟩ := h
    exact allR_get r q b e
theorem rows_lit {K : PySem.W.Frag} {σ : L2.St} {H : Hp} {t1 t2 t3 t4 : TA} (h1 : LitA K σ H t1 (caseD ⟨.i0 "memory.size", [], ["i32"], true⟩)) (h2 : LitA K σ H t2 (caseD ⟨.i0 "memory.grow", ["i32"], ["i32"], true⟩)) (h3 : LitA K σ H t3 (caseD ⟨.i0 "memory.fill", ["i32", "i32", "i32"], [], true⟩)) (h4 : LitA K σ H t4 (caseD ⟨.i0 "memory.copy", ["i32", "i32", "i32"], [], true⟩)) :
    LitR σ H (tLst (tCons (tLst t1) (tCons (tLst t2) (tCons (tLst t3) (tCons (tLst t4) tNil))))) (RowsV K) := fun H1 Q s q => by
  have hl : ∀ C : Case, (caseD C).length ≤ 1000000 := fun C => by show 4 ≤ 1000000; decide
  have m : ∀ C : Case, ∀ v H H', Same H H' → RowL K (caseD C) v H → RowL K (caseD C) v H' := fun C v H H' s h => h.mono s
  refine LitRA.cons (m _) (LitR.row h1 (hl _)) (LitRA.cons (m _) (LitR.row h2 (hl _)) (LitRA.cons (m _) (LitR.row h3 (hl _)) (LitRA.cons (m _) (LitR.row h4 (hl _)) LitRA.nil))) H1 _ s fun vs H2 s2 hvs => ?_
  have lv : vs.length = 4 := by
    obtain ⟨v1, r1, rfl, _, v2, r2, rfl, _, v3, r3, rfl, _, v4, r4, rfl, _, h⟩ := hvs
    have h : r4 = [] := h
    subst h; rfl
  exact ⟨small64 (by rw [lv]; decide), fun p hp => q _ _ (s2.trans (Same.new hp)) ⟨p, vs, rfl, upd_same, allR_mono mems38 vs (Same.new hp) hvs⟩⟩
theorem acc_lens : ∀ r ∈ accT.take 12, r.2.2.2 = true := by decide +kernel
theorem acc_lens2 : ∀ r ∈ accT.drop 12, r.2.2.2 = false := by decide +kernel
section
variable {P : Program} {w : World} {K : PySem.W.Frag} {mg : Str → Option Value} {base : Heap} {cs : Cs}
theorem c__law_access (D : Def K mg "_law_access" s__law_access ["pick"]) (T : Tp w K mg cs)  : Cal P w K mg base CX0 1 "_law_access" (sp__law_access K cs) := by
  refine D.ok sc__law_access (fun vs H Q E h => ?_) (fun f cdv A outer s H vs Q E hr h => ?_)
  · obtain ⟨n, r, rfl, _⟩ := h; rfl
  · obtain ⟨n, r, rfl, er, q⟩ := h
    have hr0 := List.mem_of_getElem? er
    obtain ⟨_, ek, _, ez⟩ := acc_bits hr0
    refine ⟨_, (pss_cons (ps_set (i := 1) sc__law_access.nd rfl (by first | exact Or.inl rfl | exact Or.inr rfl) (pe_tup (pa_cons (pe_tup (pa_cons pe_str (pa_cons pe_int pa_nil))) (pa_cons (pe_tup (pa_cons pe_str (pa_cons pe_int pa_nil))) (pa_cons (pe_tup (pa_cons pe_str (pa_cons pe_int pa_nil))) (pa_cons (pe_tup (pa_cons pe_str (pa_cons pe_int pa_nil))) (pa_cons (pe_tup (pa_cons pe_str (pa_cons pe_int pa_nil))) (pa_cons (pe_tup (pa_cons pe_str (pa_cons pe_int pa_nil))) (pa_cons (pe_tup (pa_cons pe_str (pa_cons pe_int pa_nil))) (pa_cons (pe_tup (pa_cons pe_str (pa_cons pe_int pa_nil))) (pa_cons (pe_tup (pa_cons pe_str (pa_cons pe_int pa_nil))) (pa_cons (pe_tup (pa_cons pe_str (pa_cons pe_int pa_nil))) (pa_cons (pe_tup (pa_cons pe_str (pa_cons pe_int pa_nil))) (pa_cons (pe_tup (pa_cons pe_str (pa_cons pe_int pa_nil))) pa_nil))))))))))))))
      (pss_cons (ps_set (i := 2) sc__law_access.nd rfl (by first | exact Or.inl rfl | exact Or.inr rfl) (pe_tup (pa_cons (pe_tup (pa_cons pe_str (pa_cons pe_int pa_nil))) (pa_cons (pe_tup (pa_cons pe_str (pa_cons pe_int pa_nil))) (pa_cons (pe_tup (pa_cons pe_str (pa_cons pe_int pa_nil))) (pa_cons (pe_tup (pa_cons pe_str (pa_cons pe_int pa_nil))) (pa_cons (pe_tup (pa_cons pe_str (pa_cons pe_int pa_nil))) (pa_cons (pe_tup (pa_cons pe_str (pa_cons pe_int pa_nil))) (pa_cons (pe_tup (pa_cons pe_str (pa_cons pe_int pa_nil))) pa_nil)))))))))
      (pss_cons (ps_if (pt_cmpR op_lt (pv 0) pe_int (by first | rfl | exact nomark _)) (pss_one (ps_ret (pe_lst (pa_cons (pe_ix ix_tup (pe_ix ix_tup (pv 1) (pv 0) (fun _ _ => rfl)) pe_int (fun _ _ => rfl)) (pa_cons (pe_ix ix_tup (pe_ix ix_tup (pv 1) (pv 0) (fun _ _ => rfl)) pe_int (fun _ _ => rfl)) (pa_cons (pe_tup (pa_cons pe_str pa_nil)) (pa_cons (pe_tup (pa_cons (pe_slice sl_str (pe_ix ix_tup (pe_ix ix_tup (pv 1) (pv 0) (fun _ _ => rfl)) pe_int (fun _ _ => rfl)) po_none (po_some pe_int)) pa_nil)) pa_nil))))))) pss_nil)
      (pss_one (ps_ret (pe_lst (pa_cons (pe_ix ix_tup (pe_ix ix_tup (pv 2) (pe_op op_sub (pv 0) pe_int) (fun _ _ => rfl)) pe_int (fun _ _ => rfl)) (pa_cons (pe_ix ix_tup (pe_ix ix_tup (pv 2) (pe_op op_sub (pv 0) pe_int) (fun _ _ => rfl)) pe_int (fun _ _ => rfl)) (pa_cons (pe_tup (pa_cons pe_str (pa_cons (pe_slice sl_str (pe_ix ix_tup (pe_ix ix_tup (pv 2) (pe_op op_sub (pv 0) pe_int) (fun _ _ => rfl)) pe_int (fun _ _ => rfl)) po_none (po_some pe_int)) pa_nil))) (pa_cons (pe_tup pa_nil) pa_nil)))))))))), ?_⟩
    refine Lit.seq (K := K) (d := .tuple ((accT.take 12).map accD)) (by walk_at "lit") fun v1 H1 s1 h1 => ?_
    refine Lit.seq (K := K) (d := .tuple ((accT.drop 12).map accD)) (by walk_at "lit") fun v2 H2 s2 h2 => ?_
    have h1 := h1.same s2
    have s12 := s1.trans s2
    walk_at "go"
    refine ite2 (fun cc => ?_) (fun cc => ?_)
    · have c' : n < 12 := by have := of_decide_eq_true cc; omega
      have e1 : ((accT.take 12).map accD)[n]? = some (accD r) := by rw [List.getElem?_map, List.getElem?_take, if_pos c', er]; rfl
      have eb : r.2.2.2 = true := acc_lens r (by
        have : (accT.take 12)[n]? = some r := by rw [List.getElem?_take, if_pos c', er]
        exact List.mem_of_getElem? this)
      walk_at "go"
      refine ix_D (k := n) h1 e1 fun u1 k1 => ?_
      walk_at "go"
      refine tC_go ?_
      refine ix_D (k := 0) (d := .str r.1) k1 rfl fun u2 k2 => ?_
      have w2 := k2.vstr
      subst w2
      walk_at "go"
      refine ix_D (k := n) h1 e1 fun u3 k3 => ?_
      walk_at "go"
      refine tC_go ?_
      refine ix_D (k := 1) (d := natD r.2.1) k3 rfl fun u4 k4 => ?_
      have w4 := k4.vint
      subst w4
      walk_at "go"
      intro p1 n1; generalize g1 : upd H2 p1 _ = H3; obtain ⟨s3, d3⟩ := newT (K := K) (ds := [.str "i32"]) n1 g1 (.cons (.str _) .nil)
      have h13 := h1.same s3
      walk_at "go"
      refine ix_D (k := n) h13 e1 fun u5 k5 => ?_
      walk_at "go"
      refine tC_go ?_
      refine ix_D (k := 0) (d := .str r.1) k5 rfl fun u6 k6 => ?_
      have w6 := k6.vstr
      subst w6
      walk_at "go"
      refine ⟨small64 (by omega), ?_⟩
      rw [ek]
      walk_at "go"
      intro p2 n2; generalize g2 : upd H3 p2 _ = H4; obtain ⟨s4, d4⟩ := newT (K := K) (ds := [.str r.2.2.1]) n2 g2 (.cons (.str _) .nil)
      walk_at "go"
      intro l nl
      refine q l _ (.ref p1) (.ref p2) (s12.trans (s3.trans (s4.trans (Same.new nl)))) upd_same ?_ ?_
      · unfold takesR; rw [if_pos eb]; exact (d3.same s4).same (Same.new nl)
      · unfold putsR; rw [if_pos eb]; exact d4.same (Same.new nl)
    · have c' : ¬ n < 12 := by have := of_decide_eq_false (Bool.eq_false_iff.mpr cc); omega
      have hn : n < 19 := (List.getElem?_eq_some_iff.mp er).1
      have e1 : ((accT.drop 12).map accD)[n - 12]? = some (accD r) := by rw [List.getElem?_map, List.getElem?_drop, show 12 + (n - 12) = n by omega, er]; rfl
      have eb : ¬ r.2.2.2 = true := by
        rw [acc_lens2 r (by
          have : (accT.drop 12)[n - 12]? = some r := by rw [List.getElem?_drop, show 12 + (n - 12) = n by omega, er]
          exact List.mem_of_getElem? this)]
        decide
      walk_at "go"
      refine ix_Di (k := n - 12) (i := (n : Int) - 12) (by omega) h2 e1 fun u1 k1 => ?_
      walk_at "go"
      refine tC_go ?_
      refine ix_D (k := 0) (d := .str r.1) k1 rfl fun u2 k2 => ?_
      have w2 := k2.vstr
      subst w2
      walk_at "go"
      refine ix_Di (k := n - 12) (i := (n : Int) - 12) (by omega) h2 e1 fun u3 k3 => ?_
      walk_at "go"
      refine tC_go ?_
      refine ix_D (k := 1) (d := natD r.2.1) k3 rfl fun u4 k4 => ?_
      have w4 := k4.vint
      subst w4
      walk_at "go"
      refine ix_Di (k := n - 12) (i := (n : Int) - 12) (by omega) h2 e1 fun u5 k5 => ?_
      walk_at "go"
      refine tC_go ?_
      refine ix_D (k := 0) (d := .str r.1) k5 rfl fun u6 k6 => ?_
      have w6 := k6.vstr
      subst w6
      walk_at "go"
      refine ⟨small64 (by omega), ?_⟩
      rw [ek]
      walk_at "go"
      intro p1 n1; generalize g1 : upd H2 p1 _ = H3; obtain ⟨s3, d3⟩ := newT (K := K) (ds := [.str "i32", .str r.2.2.1]) n1 g1 (.cons (.str _) (.cons (.str _) .nil))
      walk_at "go"
      intro p2 n2; generalize g2 : upd H3 p2 _ = H4; obtain ⟨s4, d4⟩ := newT (K := K) (ds := []) n2 g2 .nil
      walk_at "go"
      intro l nl
      refine q l _ (.ref p1) (.ref p2) (s12.trans (s3.trans (s4.trans (Same.new nl)))) upd_same ?_ ?_
      · unfold takesR; rw [if_neg eb]; exact (d3.same s4).same (Same.new nl)
      · unfold putsR; rw [if_neg eb]; exact d4.same (Same.new nl)
theorem c__law_case (D : Def K mg "_law_case" s__law_case ["state"]) (T : Tp w K mg cs) (c__law_draw : Cal P w K mg base CX0 1 "_law_draw" (sp__law_draw K cs)) (c__law_access : Cal P w K mg base CX0 1 "_law_access" (sp__law_access K cs)) : Cal P w K mg base CX0 2 "_law_case" (sp__law_case K cs) := by
  refine D.ok sc__law_case (fun vs H Q E h => ?_) (fun f cdv A outer s H vs Q E hr h => ?_)
  · obtain ⟨st, k, rfl, _⟩ := h; rfl
  · obtain ⟨st, k, rfl, hst, hk, q⟩ := h
    refine ⟨_, (pss_cons (ps_set (i := 1) sc__law_case.nd rfl (by first | exact Or.inl rfl | exact Or.inr rfl) (pe_c c__law_draw hr (by decide) (by rfl) (pa_cons (pv 0) (pa_cons pe_int pa_nil))))
      (pss_cons (ps_if (pt_cmpR op_lt (pv 1) pe_int (by first | rfl | exact nomark _)) (pss_cons (ps_asg (pe_c c__law_access hr (by decide) (by rfl) (pa_cons (pv 1) pa_nil)) (pg_unl (by rfl) (pgs_cons (pg_name (i := 3) sc__law_case.nd rfl (by first | exact Or.inl rfl | exact Or.inr rfl)) (pgs_cons (pg_name (i := 4) sc__law_case.nd rfl (by first | exact Or.inl rfl | exact Or.inr rfl)) (pgs_cons (pg_name (i := 5) sc__law_case.nd rfl (by first | exact Or.inl rfl | exact Or.inr rfl)) (pgs_cons (pg_name (i := 6) sc__law_case.nd rfl (by first | exact Or.inl rfl | exact Or.inr rfl)) pgs_nil))))))
      (pss_cons (ps_set (i := 7) sc__law_case.nd rfl (by first | exact Or.inl rfl | exact Or.inr rfl) (pe_c c__law_draw hr (by decide) (by rfl) (pa_cons (pv 0) (pa_cons pe_int pa_nil))))
      (C8.pss_cut (ps_if (pt_cmpR op_gt (pe_c c__law_draw hr (by decide) (by rfl) (pa_cons (pv 0) (pa_cons pe_int pa_nil))) pe_int (by first | rfl | exact nomark _)) (pss_one (ps_set (i := 7) sc__law_case.nd rfl (by first | exact Or.inl rfl | exact Or.inr rfl) (pe_op op_add (pv 4) (pe_c c__law_draw hr (by decide) (by rfl) (pa_cons (pv 0) (pa_cons pe_int pa_nil)))))) pss_nil)
      (pss_one (ps_ret (pe_lst (pa_cons (pe_tup (pa_cons (pv 3) (pa_cons (pv 7) (pa_cons (pe_c c__law_draw hr (by decide) (by rfl) (pa_cons (pv 0) (pa_cons pe_int pa_nil))) pa_nil)))) (pa_cons (pv 5) (pa_cons (pv 6) (pa_cons (pe_cmpR op_le (pv 7) (pv 4) (by first | rfl | exact nomark _)) pa_nil)))))))))) pss_nil)
      (pss_cons (ps_set (i := 2) sc__law_case.nd rfl (by first | exact Or.inl rfl | exact Or.inr rfl) (pe_lst (pa_cons (pe_lst (pa_cons (pe_tup (pa_cons pe_str pa_nil)) (pa_cons (pe_tup pa_nil) (pa_cons (pe_tup (pa_cons pe_str pa_nil)) (pa_cons pe_bl pa_nil))))) (pa_cons (pe_lst (pa_cons (pe_tup (pa_cons pe_str pa_nil)) (pa_cons (pe_tup (pa_cons pe_str pa_nil)) (pa_cons (pe_tup (pa_cons pe_str pa_nil)) (pa_cons pe_bl pa_nil))))) (pa_cons (pe_lst (pa_cons (pe_tup (pa_cons pe_str pa_nil)) (pa_cons (pe_tup (pa_cons pe_str (pa_cons pe_str (pa_cons pe_str pa_nil)))) (pa_cons (pe_tup pa_nil) (pa_cons pe_bl pa_nil))))) (pa_cons (pe_lst (pa_cons (pe_tup (pa_cons pe_str pa_nil)) (pa_cons (pe_tup (pa_cons pe_str (pa_cons pe_str (pa_cons pe_str pa_nil)))) (pa_cons (pe_tup pa_nil) (pa_cons pe_bl pa_nil))))) pa_nil))))))
      (pss_one (ps_ret (pe_ix ix_list (pv 2) (pe_op op_sub (pv 1) pe_int) (fun _ _ => rfl))))))), ?_⟩
    walk_at "go"
    refine ⟨st, k, 23, rfl, hst, by omega, by decide, by decide, fun pick H1 hp b1 hst1 => ?_⟩
    walk_at "go"
    refine ite2 (fun cc => ?_) (fun cc => ?_)
    · have c' : pick < 19 := by have := of_decide_eq_true cc; omega
      obtain ⟨r, er⟩ : ∃ r, accT[pick]? = some r := ⟨_, List.getElem?_eq_getElem c'⟩
      have hr0 := List.mem_of_getElem? er
      walk_at "go"
      refine ⟨pick, r, rfl, er, fun l0 H2 tv pv s2 e2 ht hpv => ?_⟩
      refine ⟨l0, _, rfl, SqL.of e2, rfl, ?_⟩
      refine ⟨_, _, rfl, _, _, rfl, _, _, rfl, _, _, rfl, rfl, ?_⟩
      have hst2 := hst1.same s2
      walk_at "go"
      refine ⟨st, k + 1, 32, rfl, hst2, by omega, by decide, by decide, fun e0 H3 he b3 hst3 => ?_⟩
      have t3 : Ti K H2 H3 := hst2.ti b3
      refine ⟨fun σ G => ∃ (e k2 : Nat), e < 32 ∧ k2 ≤ k + 4 ∧ StA G st k2 ∧ Dt K G tv (tupS (takesR r)) ∧ Dt K G pv (tupS (putsR r)) ∧ ∃ o2, σ = [some (.ref st), some (.int (pick : Int)), o2, some (.str r.1), some (.int (r.2.1 : Int)), some tv, some pv, some (.int (e : Int))], ?_, ?_⟩
      · walk_at "go"
        refine ⟨st, k + 2, 3, rfl, hst3, by omega, by decide, by decide, fun y H4 hy b4 hst4 => ?_⟩
        have t4 := t3.trans (hst3.ti (K := K) b4)
        walk_at "go"
        refine ite2 (fun cc => ?_) (fun cc => ?_)
        · walk_at "go"
          refine ⟨st, k + 3, 2, rfl, hst4, by omega, by decide, by decide, fun z H5 hz b5 hst5 => ?_⟩
          have t5 := t4.trans (hst4.ti (K := K) b5)
          walk_at "go"
          have hn : r.2.1 ≤ 3 := acc_nat r hr0
          exact ⟨r.2.1 + z, k + 4, by omega, by omega, hst5, ht.ti t5, hpv.ti t5, _, rfl⟩
        · exact ⟨e0, k + 3, he, by omega, hst4, ht.ti t4, hpv.ti t4, _, rfl⟩
      rintro _ G ⟨e, k2, he2, hk2, hstG, htG, hpG, o2, rfl⟩
      walk_at "go"
      refine ⟨st, k2, 9, rfl, hstG, by omega, by decide, by decide, fun m G2 hm b2 hst2' => ?_⟩
      have t2 := hstG.ti (K := K) b2
      walk_at "go"
      intro p1 n1; generalize g1 : upd G2 p1 _ = G3; obtain ⟨s3, d3⟩ := newT (K := K) (ds := [.str r.1, .int (e : Int), .int (m : Int)]) n1 g1 (.cons (.str _) (.cons (.int _) (.cons (.int _) .nil)))
      walk_at "go"
      intro l nl
      have sl := Same.new nl (o := .lst [.ref p1, tv, pv, .bl (decide ((e : Int) ≤ (r.2.1 : Int)))])
      have ef : decide ((e : Int) ≤ (r.2.1 : Int)) = (accOf r e m).fits := by
        show _ = decide (e ≤ r.2.1)
        rw [Bool.eq_iff_iff, decide_eq_true_iff, decide_eq_true_iff]; omega
      refine q (accOf r e m) l _ (.ref p1) tv pv (k2 + 1) (.inl ⟨r, hr0, e, m, he2, rfl⟩) (by rw [← ef]; exact upd_same) ?_ (((htG.ti t2).same s3).same sl) (((hpG.ti t2).same s3).same sl) ((hst2'.same s3).same sl) (by omega)
      show Dt K _ _ (insD (.i2 r.1 (e : Int) (m : Int)))
      rw [insD]
      exact d3.same sl
    · have c' : ¬ pick < 19 := by have := of_decide_eq_false (Bool.eq_false_iff.mpr cc); omega
      refine next_go ?_
      refine Lit.run2 ?_
      refine LitR.asg (K := K) (rows_lit ?_ ?_ ?_ ?_) fun v H2 s2 hv => ?_
      · walk_at "lit"
      · walk_at "lit"
      · walk_at "lit"
      · walk_at "lit"
      obtain ⟨l0, xs, rfl, e0, ha⟩ := hv
      obtain ⟨C, eC⟩ : ∃ C, mems38[pick - 19]? = some C := ⟨_, List.getElem?_eq_getElem (show pick - 19 < 4 by omega)⟩
      obtain ⟨v, ev, l, ys, rfl, el, hy⟩ := allR_get mems38 xs ha eC
      have hst2 := hst1.same s2
      cases hy with
      | cons hy0 hy =>
      cases hy with
      | cons hy1 hy =>
      cases hy with
      | cons hy2 hy =>
      cases hy with
      | cons hy3 hy =>
      cases hy
      have w3 := hy3.vbl
      subst w3
      walk_at "go"
      refine ⟨l0, _, _, _, rfl, rfl, SqL.of e0, (by show atI xs ((pick : Int) - 19) = _; rw [show ((pick : Int) - 19) = ((pick - 19 : Nat) : Int) by omega]; exact atI_nat ev), ?_⟩
      exact q C l H2 _ _ _ (k + 1) (.inr (List.mem_of_getElem? eC)) el hy0 hy1 hy2 hst2 (by omega)
theorem c_law {f : Addr} {fd : FuncData} (D : L2.Fun K "law" "law" s_law f fd) (T : Tp w K mg cs) (c__law_state : Cal P w K mg base CX0 1 "_law_state" (sp__law_state K cs)) (c__law_case : Cal P w K mg base CX0 2 "_law_case" (sp__law_case K cs)) (c__law_draw : Cal P w K mg base CX0 1 "_law_draw" (sp__law_draw K cs)) (c_Module___init__ : CalK P w K mg base CX0 (Cs.C_Module cs) 1 (sp_Module___init__ K cs) ["signatures", "imports", "functions", "memories"] (fun vs zs => vs ++ mixK [true, true, true, false, true, false, false, false, false, false, false] zs ((ms_Module cs).map (·.2)))) (c_check : Cal P w K mg base CX0 37 "check" (sp_check K cs)) : FnOk P w K mg base CX0 38 f fd ["script"] (sp_law K cs) := by
  refine D.ok sc_law (fun vs H Q E h => ?_) (fun cdv A outer s H vs Q E hr h => ?_)
  · obtain ⟨a, ns, rfl, _⟩ := h; rfl
  · obtain ⟨a, ns, rfl, hS, hl, q⟩ := h
    refine ⟨_, (pss_cons (ps_set (i := 1) sc_law.nd rfl (by first | exact Or.inl rfl | exact Or.inr rfl) (pe_c c__law_state hr (by decide) (by rfl) (pa_cons (pv 0) pa_nil)))
      (pss_cons (ps_asg (pe_c c__law_case hr (by decide) (by rfl) (pa_cons (pv 1) pa_nil)) (pg_unl (by rfl) (pgs_cons (pg_name (i := 2) sc_law.nd rfl (by first | exact Or.inl rfl | exact Or.inr rfl)) (pgs_cons (pg_name (i := 3) sc_law.nd rfl (by first | exact Or.inl rfl | exact Or.inr rfl)) (pgs_cons (pg_name (i := 4) sc_law.nd rfl (by first | exact Or.inl rfl | exact Or.inr rfl)) (pgs_cons (pg_name (i := 5) sc_law.nd rfl (by first | exact Or.inl rfl | exact Or.inr rfl)) pgs_nil))))))
      (pss_cons (ps_set (i := 6) sc_law.nd rfl (by first | exact Or.inl rfl | exact Or.inr rfl) (pe_c c__law_draw hr (by decide) (by rfl) (pa_cons (pv 1) (pa_cons pe_int pa_nil))))
      (pss_cons (ps_set (i := 7) sc_law.nd rfl (by first | exact Or.inl rfl | exact Or.inr rfl) (pe_tup pa_nil))
      (pss_cons (ps_set (i := 8) sc_law.nd rfl (by first | exact Or.inl rfl | exact Or.inr rfl) (pe_tup pa_nil))
      (C8.pss_cut (ps_if (pt_cmpR op_eq (pv 6) pe_int (by first | rfl | exact nomark _)) (pss_one (ps_set (i := 7) sc_law.nd rfl (by first | exact Or.inl rfl | exact Or.inr rfl) (pe_tup (pa_cons (pe_tup (pa_cons pe_str (pa_cons pe_str (pa_cons pe_str (pa_cons (pe_tup (pa_cons pe_int (pa_cons pe_non pa_nil))) pa_nil))))) pa_nil)))) (pss_one (ps_if (pt_cmpR op_lt (pv 6) pe_int (by first | rfl | exact nomark _)) (pss_one (ps_set (i := 8) sc_law.nd rfl (by first | exact Or.inl rfl | exact Or.inr rfl) (pe_tup (pa_cons (pe_tup (pa_cons pe_int (pa_cons pe_int pa_nil))) pa_nil)))) pss_nil)))
      (pss_cons (ps_set (i := 9) sc_law.nd rfl (by first | exact Or.inl rfl | exact Or.inr rfl) (pe_cmpR op_gt (pe_c c__law_draw hr (by decide) (by rfl) (pa_cons (pv 1) (pa_cons pe_int pa_nil))) pe_int (by first | rfl | exact nomark _)))
      (pss_cons (ps_setLc (i := 10) (own := [("kind", 13)]) (g := gName 13) (tt := tYes) (by rfl) sc_law.nd rfl rfl (sw_true rfl rfl rfl (by decide +kernel)) (pi_tup (pv 3)) (blkOk_by (own := [("kind", 13)]) (N := ["script", "state", "instruction", "takes", "puts", "fits", "memory", "given", "own", "whole", "code", "kinds", "place", "kind", "expected", "module"]) (sc := defScope s_law) (by decide +kernel)) (fun _ _ _ _ _ => (pg_name (i := 13) sc_law.nd rfl (by first | exact Or.inl rfl | exact Or.inr rfl))) (fun _ _ _ _ _ => pts_nil) (fun _ _ _ _ _ => (pe_tup (pa_cons (pe_op op_add_str (pv 13) pe_str) (pa_cons pe_int pa_nil)))))
      (C8.pss_cut (ps_if (PW.pt (pw_and (pt_not (pt_val (pv 9))) (pw_and1 (pt_cmpR op_gt (pe_callB call_len_seq (by rfl) T.m_len PySem.boot_len (pa_cons (pv 3) pa_nil)) pe_int (by first | rfl | exact nomark _))))) (pss_one (ps_set (i := 10) sc_law.nd rfl (by first | exact Or.inl rfl | exact Or.inr rfl) (pe_slice sl_list (pv 10) (po_some pe_int) po_none))) pss_nil)
      (C8.pss_cut (ps_set (i := 11) sc_law.nd rfl (by first | exact Or.inl rfl | exact Or.inr rfl) (pe_slice sl_tupA (pv 3) (po_some (pe_op op_sub (pe_callB call_len_seq (by rfl) T.m_len PySem.boot_len (pa_cons (pv 3) pa_nil)) (pe_callB call_len_seq (by rfl) T.m_len PySem.boot_len (pa_cons (pv 10) pa_nil)))) po_none))
      (pss_cons (ps_set (i := 12) sc_law.nd rfl (by first | exact Or.inl rfl | exact Or.inr rfl) (pe_callB call_len_seq (by rfl) T.m_len PySem.boot_len (pa_cons (pv 10) pa_nil)))
      (pss_cons (ps_expr (pe_bm PySem.F.plainAttrs_list PySem.F.slot_list_append PySem.F.type_list_append mt_append (pv 10) (pa_cons (pv 2) pa_nil)))
      (pss_cons (ps_for PassesOwn.never rfl (pi_tup (pv 4)) (pg_name (i := 13) sc_law.nd rfl (by first | exact Or.inl rfl | exact Or.inr rfl)) (pss_one (ps_expr (pe_bm PySem.F.plainAttrs_list PySem.F.slot_list_append PySem.F.type_list_append mt_append (pv 10) (pa_cons (pe_tup (pa_cons pe_str pa_nil)) pa_nil)))))
      (pss_cons (ps_set (i := 14) sc_law.nd rfl (by first | exact Or.inl rfl | exact Or.inr rfl) pe_non)
      (C8.pss_cut (ps_if (pt_cmpR op_eq (pv 6) pe_int (by first | rfl | exact nomark _)) (pss_one (ps_set (i := 14) sc_law.nd rfl (by first | exact Or.inl rfl | exact Or.inr rfl) pe_str)) (pss_one (ps_if (pt_not (pt_val (pv 5))) (pss_one (ps_set (i := 14) sc_law.nd rfl (by first | exact Or.inl rfl | exact Or.inr rfl) pe_str)) (pss_one (ps_if (pt_cmpR op_lt (pe_callB call_len_seq (by rfl) T.m_len PySem.boot_len (pa_cons (pv 11) pa_nil)) (pe_callB call_len_seq (by rfl) T.m_len PySem.boot_len (pa_cons (pv 3) pa_nil)) (by first | rfl | exact nomark _)) (pss_one (ps_set (i := 14) sc_law.nd rfl (by first | exact Or.inl rfl | exact Or.inr rfl) pe_str)) pss_nil)))))
      (C8.pss_cut (ps_if (pt_cmpR op_notN (pv 14) pe_non (by first | rfl | exact nomark _)) (pss_one (ps_set (i := 14) sc_law.nd rfl (by first | exact Or.inl rfl | exact Or.inr rfl) (pe_tup (pa_cons pe_str (pa_cons pe_int (pa_cons (pv 14) (pa_cons (pv 12) (pa_cons (pe_tup (pa_cons (pv 11) (pa_cons pe_bl pa_nil))) pa_nil)))))))) pss_nil)
      (pss_cons (ps_set (i := 15) sc_law.nd rfl (by first | exact Or.inl rfl | exact Or.inr rfl) (pe_nk c_Module___init__ hr (by decide) (by rfl) T.g_Module (pk_cons (pe_tup (pa_cons (pe_tup (pa_cons (pe_tup pa_nil) (pa_cons (pe_tup pa_nil) pa_nil))) pa_nil)) (pk_cons (pv 7) (pk_cons (pe_tup (pa_cons (pe_tup (pa_cons pe_int (pa_cons (pe_tup pa_nil) (pa_cons (pe_callTy call_tuple_of (by rfl) T.m_tuple (by decide +kernel) (pa_cons (pv 10) pa_nil)) pa_nil)))) pa_nil)) (pk_cons (pv 8) pk_nil))))))
      (pss_one (ps_ret (pe_cmpR (op_eqD (hu64 hr)) (pe_c c_check hr (by decide) (by rfl) (pa_cons (pv 15) pa_nil)) (pv 14) (by first | rfl | exact nomark _))))))))))))))))))))), ?_⟩
    walk_at "go"
    refine ⟨a, ns, rfl, hS, hl, fun st H1 s1 nst hst => ?_⟩
    walk_at "go"
    refine ⟨st, 0, rfl, hst, by decide, fun C l H2 iv tv pv k2 hC el hiv htv hpv hst2 hk2 => ?_⟩
    refine ⟨l, _, rfl, SqL.of el, rfl, ?_⟩
    refine ⟨_, _, rfl, _, _, rfl, _, _, rfl, _, _, rfl, rfl, ?_⟩
    clear el hst s1 nst hS
    walk_at "go"
    refine ⟨st, k2, 4, rfl, hst2, by omega, by decide, by decide, fun mem H3 hm b3 hst3 => ?_⟩
    have t3 := hst2.ti (K := K) b3
    have hiv := hiv.ti t3
    have htv := htv.ti t3
    have hpv := hpv.ti t3
    clear hst2 b3 t3
    walk_at "go"
    intro p1 n1; generalize g1 : upd H3 p1 _ = H4; obtain ⟨s4, d4⟩ := newT (K := K) (ds := []) n1 g1 .nil
    walk_at "go"
    intro p2 n2; generalize g2 : upd H4 p2 _ = H5; obtain ⟨s5, d5⟩ := newT (K := K) (ds := []) n2 g2 .nil
    have s35 := s4.trans s5
    have hiv := hiv.same s35
    have htv := htv.same s35
    have hpv := hpv.same s35
    have hst5 := hst3.same s35
    have d4 := d4.same s5
    clear g1 g2 n1 n2 s4 s5 s35 hst3
    refine ⟨fun σ G => Same H5 G ∧ ∃ gv ov, Dt K G gv (.tuple ((impsM mem).map impD)) ∧ Dt K G ov (.tuple (memsM mem)) ∧ ∃ o9 o10 o11 o12 o13 o14 o15, σ = [some (.ref a), some (.ref st), some iv, some tv, some pv, some (.bl C.fits), some (.int (mem : Int)), some gv, some ov, o9, o10, o11, o12, o13, o14, o15], ?_, ?_⟩
    · walk_at "go"
      by_cases c0 : mem = 0
      · refine ifEq (by omega) ?_
        subst c0
        refine Lit.asg2 (K := K) (d := .tuple ((impsM 0).map impD)) ?_ fun v H6 s6 h6 => ?_
        · walk_at "lit"
        exact ⟨s6, v, .ref p2, h6, d5.same s6, _, _, _, _, _, _, _, rfl⟩
      · refine ifEqN (by omega) ?_
        walk_at "go"
        refine ite2 (fun cc => ?_) (fun cc => ?_)
        · have c3 : mem < 3 := by have := of_decide_eq_true cc; omega
          have em : memsM mem = [.tuple [natD 0, natD 0]] := if_pos (by omega)
          have ei : impsM mem = [] := if_neg c0
          refine Lit.asg2 (K := K) (d := .tuple [.tuple [natD 0, natD 0]]) ?_ fun v H6 s6 h6 => ?_
          · walk_at "lit"
          exact ⟨s6, .ref p1, v, by rw [ei]; exact d4.same s6, by rw [em]; exact h6, _, _, _, _, _, _, _, rfl⟩
        · have c3 : ¬ mem < 3 := by have := of_decide_eq_false (Bool.eq_false_iff.mpr cc); omega
          have em : memsM mem = [] := if_neg (by omega)
          have ei : impsM mem = [] := if_neg c0
          exact ⟨Same.refl _, .ref p1, .ref p2, by rw [ei]; exact d4, by rw [em]; exact d5, _, _, _, _, _, _, _, rfl⟩
    rintro _ G ⟨s6, gv, ov, hgv, hov, o9, o10, o11, o12, o13, o14, o15, rfl⟩
    have hiv := hiv.same s6
    have htv := htv.same s6
    have hpv := hpv.same s6
    have hst := hst5.same s6
    clear d4 d5 hst5 s6
    walk_at "go"
    refine ⟨st, k2 + 1, 3, rfl, hst, by omega, by decide, by decide, fun wd G2 hwd b7 hst7 => ?_⟩
    have t7 := hst.ti (K := K) b7
    have hiv := hiv.ti t7
    have htv := htv.ti t7
    have hpv := hpv.ti t7
    have hgv := hgv.ti t7
    have hov := hov.ti t7
    clear hst hst7 b7 t7
    obtain ⟨g1, g2, g3, hkd, hl1, hl2⟩ := law_data (w := decide ((0 : Int) < (wd : Int))) hC hm
    obtain ⟨ta, rfl, hta⟩ := htv.sqS
    walk_at "go"
    refine ⟨⟨_, hta⟩, fun D hD => ?_⟩
    refine lcD_tup (K := K) (fun i => (C.ts.take i).map fun k => insD (constI k)) hD hta (by rw [List.length_map]; omega) rfl (fun i x G3 hx s3 => ?_) (fun G3 ys s3 k3 d3 l3 => ?_)
    · intro Y N hy hn
      simp only [tYes, if_true]
      rw [List.getElem?_map] at hx
      obtain ⟨kk, ekk, rfl⟩ := Option.map_eq_some_iff.mp hx
      have hkk : kk.length ≤ 10 := by
        unfold kdsOk at hkd
        have := List.all_eq_true.mp hkd kk (List.mem_of_getElem? ekk)
        rw [Bool.or_eq_true] at this
        rcases this with h | h <;> (rw [of_decide_eq_true h]; decide +kernel)
      walk_at "go"
      refine ⟨small64 (by have : ((".const" : Str).length) = 6 := by decide +kernel
                          omega), ?_⟩
      walk_at "go"
      intro p1 n1; generalize g1 : upd G3 p1 _ = G4; obtain ⟨s5, d5⟩ := newT (K := K) (ds := [.str (kk ++ ".const"), .int 0]) n1 g1 (.cons (.str _) (.cons (.int _) .nil))
      exact hy _ _ (insD (constI kk)) s5 (by unfold constI; rw [insD]; exact d5) (map_take_snoc _ ekk)
    have lz := d3.len
    rw [List.length_map, List.length_map, List.length_take, Nat.min_self] at lz
    rw [List.length_map, List.take_length] at d3
    have hiv := hiv.same s3
    have htv := htv.same s3
    have hpv := hpv.same s3
    have hgv := hgv.same s3
    have hov := hov.same s3
    have hta := Same.ti s3 _ _ hta
    clear s3 hD l3
    generalize hw : decide ((0 : Int) < (wd : Int)) = w at g1 g2 g3
    refine ⟨fun σ G => Same G3 G ∧ ∃ cl zs, G cl = some (.lst zs) ∧ DtA K G zs ((pre38 w C.ts).map fun k => insD (constI k)) ∧ ∃ o11 o12 o13 o14 o15, σ = [some (.ref a), some (.ref st), some iv, some (.ref ta), some pv, some (.bl C.fits), some (.int (mem : Int)), some gv, some ov, some (.bl w), some (.ref cl), o11, o12, o13, o14, o15], ?_, ?_⟩
    · refine tand_b (!w) (decide (0 < C.ts.length)) (fun Q q => ?_) (fun Q q => ?_) ?_
      · rw [← hw] at q
        walk_at "go"
        exact q
      · walk_at "go"
        rw [List.length_map]
        have e : decide ((0 : Int) < (C.ts.length : Int)) = decide (0 < C.ts.length) := by rw [Bool.eq_iff_iff, decide_eq_true_iff, decide_eq_true_iff]; omega
        rw [e]
        exact q
      cases cp : (!w && decide (0 < C.ts.length)) with
      | true =>
        walk_at "go"
        refine noP_go ?_
        refine ⟨D, ys, rfl, SqL.of k3, fun p hp => ?_⟩
        have ec : cutV ys (some 1) none = ys.drop 1 := cut_from ys 1
        have ep : pre38 w C.ts = C.ts.drop 1 := by unfold pre38; rw [cp]; rfl
        refine ⟨Same.new hp, p, ys.drop 1, by rw [ec]; exact upd_same, ?_, _, _, _, _, _, by rw [← hw]; rfl⟩
        rw [ep, List.map_drop]
        exact (d3.drop 1).same (Same.new hp)
      | false =>
        have ep : pre38 w C.ts = C.ts := by unfold pre38; rw [cp]; rfl
        exact ⟨Same.refl _, D, ys, k3, by rw [ep]; exact d3, _, _, _, _, _, by rw [← hw]; rfl⟩
    rintro _ G ⟨s4, cl, zs, kcl, dz, o11, o12, o13, o14, o15, rfl⟩
    have hiv := hiv.same s4
    have htv := htv.same s4
    have hpv := hpv.same s4
    have hgv := hgv.same s4
    have hov := hov.same s4
    have hta := Same.ti s4 _ _ hta
    clear s4 d3 k3 lz
    have lz := dz.len
    rw [List.length_map] at lz
    refine ⟨fun σ G' => Same G G' ∧ ∃ kv, Dt K G' kv (tupS (pre38 w C.ts)) ∧ σ = [some (.ref a), some (.ref st), some iv, some (.ref ta), some pv, some (.bl C.fits), some (.int (mem : Int)), some gv, some ov, some (.bl w), some (.ref cl), some kv, o12, o13, o14, o15], ?_, ?_⟩
    · walk_at "go"
      refine ⟨cl, _, rfl, .inl (SqL.of kcl), ?_⟩
      walk_at "go"
      refine noP_go ?_
      rw [List.length_map]
      cases cp : (!w && decide (0 < C.ts.length)) with
      | true =>
        have ep : pre38 w C.ts = C.ts.drop 1 := by unfold pre38; rw [cp]; rfl
        have l0 : 0 < C.ts.length := by rw [Bool.and_eq_true] at cp; exact of_decide_eq_true cp.2
        have e1 : ((C.ts.length : Int) - (zs.length : Int)) = ((1 : Nat) : Int) := by rw [lz, ep, List.length_drop]; omega
        have nw : ¬ (HT.sIx (C.ts.map V.str).length 0 (some ((1 : Nat) : Int)) = 0 ∧ HT.sIx (C.ts.map V.str).length (C.ts.map V.str).length none = (C.ts.map V.str).length) := fun z => by
          have := z.1
          rw [HT.sIx_nat, List.length_map] at this
          omega
        rw [e1]
        refine ⟨ta, _, rfl, hta, fun z => absurd z nw, fun _ p hp => ?_⟩
        rw [cut_from]
        refine ⟨Same.new hp, .ref p, ?_, rfl⟩
        rw [ep]
        refine .tup (SqT.of upd_same) ?_
        unfold tupS at htv
        rw [List.map_drop]
        exact ((DtA.strs C.ts).drop 1).same (Same.new hp)
      | false =>
        have ep : pre38 w C.ts = C.ts := by unfold pre38; rw [cp]; rfl
        have e1 : ((C.ts.length : Int) - (zs.length : Int)) = ((0 : Nat) : Int) := by rw [lz, ep]; omega
        rw [e1]
        refine ⟨ta, _, rfl, hta, fun _ => ⟨Same.refl _, .ref ta, by rw [ep]; exact htv, rfl⟩, fun z => absurd ⟨by rw [HT.sIx_nat]; omega, HT.sIx_none _ _⟩ z⟩
    rintro _ G' ⟨s4, kv, hkv, rfl⟩
    have hiv := hiv.same s4
    have htv := htv.same s4
    have hpv := hpv.same s4
    have hgv := hgv.same s4
    have hov := hov.same s4
    have hta := Same.ti s4 _ _ hta
    have dz := dz.same s4
    have kcl := s4 _ _ kcl
    clear s4
    obtain ⟨pa, rfl, hpa⟩ := hpv.sqS
    walk_at "go"
    refine ⟨cl, _, rfl, .inl (SqL.of kcl), ?_⟩
    walk_at "go"
    refine ⟨.inl ⟨rfl, _, SqL.of kcl⟩, ?_⟩
    walk_at "go"
    refine ⟨_, _, _, rfl, rfl, kcl, small64' (by
      have : (pre38 w C.ts).length ≤ C.ts.length := by unfold pre38; split <;> simp
      omega), ?_⟩
    have t6 : Ti K G' (upd G' cl (.lst (zs ++ [iv]))) := Ti.putL kcl
    have kc6 : upd G' cl (.lst (zs ++ [iv])) cl = some (.lst (zs ++ [iv])) := upd_same
    have dz6 : DtA K (upd G' cl (.lst (zs ++ [iv]))) (zs ++ [iv]) (((pre38 w C.ts).map constI ++ C.i :: List.replicate 0 dropI).map insD) := by
      rw [List.map_append, List.map_map]
      exact (dz.ti t6).app (.cons (hiv.ti t6) .nil)
    generalize upd G' cl (.lst (zs ++ [iv])) = G6 at t6 kc6 dz6
    have lzp : (pre38 w C.ts).length ≤ 10 := by
      have : (pre38 w C.ts).length ≤ C.ts.length := by unfold pre38; split <;> simp
      omega
    refine ⟨_, rfl, pa, rfl, ⟨_, t6 _ _ hpa⟩, for_tupE (xs := C.ps.map V.str) (fun j σ G7 => Ti K G6 G7 ∧ ∃ ws o13, G7 cl = some (.lst ws) ∧ DtA K G7 ws (((pre38 w C.ts).map constI ++ C.i :: List.replicate j dropI).map insD) ∧ σ = [some (.ref a), some (.ref st), some iv, some (.ref ta), some (.ref pa), some (.bl C.fits), some (.int (mem : Int)), some gv, some ov, some (.bl w), some (.ref cl), some kv, some (.int (zs.length : Int)), o13, o14, o15])
      ⟨Ti.refl _, _, _, kc6, dz6, rfl⟩ (fun j σ G7 _ h => h.1 _ _ (t6 _ _ hpa)) ?_ ?_⟩
    · rintro j x _ G7 hx ⟨t7, ws, o13, kc7, dw, rfl⟩
      have hj : j < C.ps.length := by
        have := (List.getElem?_eq_some_iff.mp hx).1
        rw [List.length_map] at this; exact this
      have lw := dw.len
      rw [List.length_map, List.length_append, List.length_map, List.length_cons, List.length_replicate] at lw
      walk_at "go"
      refine ⟨.inl ⟨rfl, _, SqL.of kc7⟩, ?_⟩
      walk_at "go"
      intro p1 n1; generalize g1 : upd G7 p1 _ = G8; obtain ⟨s8, d8⟩ := newT (K := K) (ds := [.str "drop"]) n1 g1 (.cons (.str _) .nil)
      have kc8 := s8 _ _ kc7
      walk_at "go"
      refine ⟨_, _, _, rfl, rfl, kc8, small64' (by omega), ?_⟩
      have t9 : Ti K G8 (upd G8 cl (.lst (ws ++ [.ref p1]))) := Ti.putL kc8
      refine ⟨t7.trans ((Same.ti s8).trans t9), _, _, upd_same, ?_, rfl⟩
      rw [show (pre38 w C.ts).map constI ++ C.i :: List.replicate (j + 1) dropI = ((pre38 w C.ts).map constI ++ C.i :: List.replicate j dropI) ++ [dropI] by rw [List.replicate_succ', List.append_assoc]; rfl, List.map_append]
      exact ((dw.same s8).ti t9).snoc (by show Dt K _ _ (insD dropI); unfold dropI; rw [insD]; exact d8.ti t9)
    rintro _ G7 ⟨t7, ws, o13, kc7, dw, rfl⟩
    rw [List.length_map] at dw
    have ecode : (pre38 w C.ts).map constI ++ C.i :: List.replicate C.ps.length dropI = codeOf w C := by
      unfold codeOf
      rw [List.map_const']
    rw [ecode] at dw
    have tG := t6.trans t7
    have hgv := hgv.ti tG
    have hov := hov.ti tG
    have hkv := hkv.ti tG
    obtain ⟨ka, rfl, hka⟩ := hkv.sqS
    have hta := tG _ _ hta
    clear hiv htv hpv dz dz6 kc6 hpa kcl t6 t7 tG ecode
    refine ⟨fun σ G8 => G7 = G8 ∧ σ = [some (.ref a), some (.ref st), some iv, some (.ref ta), some (.ref pa), some (.bl C.fits), some (.int (mem : Int)), some gv, some ov, some (.bl w), some (.ref cl), some (.ref ka), some (.int (zs.length : Int)), o13, some (optR (reason38 mem C w)), o15], ?_, ?_⟩
    · unfold reason38
      walk_at "go"
      by_cases c3 : mem = 3
      · refine ifEq (by omega) ?_
        rw [if_pos c3]
        walk_at "go"
        rfl
      · refine ifEqN (by omega) ?_
        rw [if_neg c3]
        walk_at "go"
        cases cf : C.fits with
        | false =>
          walk_at "go"
          rfl
        | true =>
          walk_at "go"
          rw [List.length_map, List.length_map]
          refine ite2 (fun cc => ?_) (fun cc => ?_)
          · have c' : (pre38 w C.ts).length < C.ts.length := by have := of_decide_eq_true cc; omega
            rw [if_neg (by decide), if_pos c']
            walk_at "go"
            rfl
          · have c' : ¬ (pre38 w C.ts).length < C.ts.length := by have := of_decide_eq_false (Bool.eq_false_iff.mpr cc); omega
            rw [if_neg (by decide), if_neg c']
            exact ⟨rfl, rfl⟩
    rintro _ _ ⟨rfl, rfl⟩
    refine ⟨fun σ G8 => Same G7 G8 ∧ ∃ ev, Dt K G8 ev (expD38 mem C w) ∧ σ = [some (.ref a), some (.ref st), some iv, some (.ref ta), some (.ref pa), some (.bl C.fits), some (.int (mem : Int)), some gv, some ov, some (.bl w), some (.ref cl), some (.ref ka), some (.int (zs.length : Int)), o13, some ev, o15], ?_, ?_⟩
    · unfold expD38
      cases er : reason38 mem C w with
      | none =>
        show tIfS _ _ _ _ [some (.ref a), some (.ref st), some iv, some (.ref ta), some (.ref pa), some (.bl C.fits), some (.int (mem : Int)), some gv, some ov, some (.bl w), some (.ref cl), some (.ref ka), some (.int (zs.length : Int)), o13, some .non, o15] G7
        walk_at "go"
        exact ⟨Same.refl _, .non, .non, rfl⟩
      | some rr =>
        show tIfS _ _ _ _ [some (.ref a), some (.ref st), some iv, some (.ref ta), some (.ref pa), some (.bl C.fits), some (.int (mem : Int)), some gv, some ov, some (.bl w), some (.ref cl), some (.ref ka), some (.int (zs.length : Int)), o13, some (.str rr), o15] G7
        walk_at "go"
        intro p1 n1; generalize gg1 : upd G7 p1 _ = H5; obtain ⟨s5, d5⟩ := newT (K := K) (ds := [tupS (pre38 w C.ts), .bool false]) n1 gg1 (.cons hkv (.cons (.bl _) .nil))
        walk_at "go"
        refine ⟨small64 (by show 5 ≤ 1000000; decide), ?_⟩
        intro p2 n2; generalize gg2 : upd H5 p2 _ = H6; obtain ⟨s6, d6⟩ := newT (K := K) (ds := [.str "code", .int 0, .str rr, .int ((pre38 w C.ts).length : Int), .tuple [tupS (pre38 w C.ts), .bool false]]) n2 gg2 (.cons (.str _) (.cons (.int _) (.cons (.str _) (.cons (by rw [lz]; exact .int _) (.cons d5 .nil)))))
        exact ⟨s5.trans s6, .ref p2, d6, rfl⟩
    rintro _ G8 ⟨s8, ev, hev, rfl⟩
    have hgv := hgv.same s8
    have hov := hov.same s8
    have dw := dw.same s8
    rw [← insDs_map] at dw
    have kc7 := s8 _ _ kc7
    clear hkv hka hta s8
    refine Lit.run3 ?_
    refine LitA.make (K := K) (ds := argD38 mem (codeOf w C)) ?_ fun zs H1 s1 hz => ?_
    · unfold argD38
      walk_at "lit"
      exact Lit.tupl rfl kc7 dw fun H Q hs q => ⟨_, _, rfl, .inl ⟨hs, q⟩⟩
    refine ⟨hz.len, fun m dm nm ndm nedm => ?_⟩
    cases hz with
    | cons z0 hz =>
    cases hz with
    | cons z1 hz =>
    cases hz with
    | cons z2 hz =>
    cases hz with
    | cons z3 hz =>
    cases hz
    rename_i y0 y1 y2 y3
    refine ⟨m, dm, y0, y1, y2, .ref cs.e_Module_tables, y3, .ref cs.e_Module_tags, .ref cs.e_Module_variables, .ref cs.e_Module_exports, .non, .ref cs.e_Module_table_segments, .ref cs.e_Module_memory_segments, rfl, upd_same, fun H' S hm' => ⟨rfl, ?_⟩⟩
    have t1 : Ti K H1 H' := (Same.ti (made_same nm ndm (SameBut.refl _))).trans S.ti
    have emp : ∀ {e : Addr}, EmpT K e → Dt K H' (.ref e) (.tuple []) := fun h => .tup h.sq .nil
    have hMo : MoAt K cs H' m (M38 mem (codeOf w C)) := ⟨dm, _, _, _, _, _, _, _, _, _, _, _, hm', z0.ti t1, z1.ti t1, z2.ti t1, emp T.q_Module_tables, z3.ti t1, emp T.q_Module_tags, emp T.q_Module_variables, emp T.q_Module_exports, .non, emp T.q_Module_table_segments, emp T.q_Module_memory_segments⟩
    have hev := (hev.same s1).ti t1
    clear z0 z1 z2 z3 hgv hov dw kc7 s1 t1 emp S hm'
    walk_at "go"
    refine ⟨m, M38 mem (codeOf w C), fs38 (codeOf w C), fun _ => cx38 mem, rfl, hMo, M38_small hm _, rfl, g1, M38_rest hm _, fun v G2 s2 hv => ?_⟩
    rw [g2] at hv
    walk_at "go"
    exact eqD_same hv.dp (hev.ti (s2.ti fun _ z => nomatch z)).dp g3 (q _)
theorem law_end : True := trivial
end

theorem all_mk {l : PySem.W.OpenLaw} {w : World} {K : PySem.W.Frag} {h : Heap} {mg : Str → Option Value} {fa f0 f1 f2 f3 f4 f5 f6 f7 f8 f9 f10 f11 f12 f13 f14 f15 f16 f17 f18 f19 f20 f21 f22 f23 f24 f25 f26 f27 f28 f29 f30 f31 f32 f33 f34 f35 f36 f37 f38 f39 f40 f41 f42 f43 f44 f45 f46 f47 f48 f49 f50 f51 f52 f53 f54 f55 f56 f57 f58 f59 f60 f61 f62 f63 f64 f65 f66 f67 f68 f69 f70 f71 f72 f73 f74 f75 f76 f77 : Addr} (X : K.In h) (G : h.Ns mainGlobals mg) (hfa : mg "law" = some (.ref fa))
    {od0 an0 od1 an1 od2 an2 od3 an3 od4 an4 od5 an5 od6 an6 od7 an7 od8 an8 od9 an9 od10 an10 od11 an11 od12 an12 od13 an13 od14 an14 od15 an15 od16 an16 od17 an17 od18 an18 od19 an19 od20 an20 od21 an21 od22 an22 od23 an23 od24 an24 od25 an25 od26 an26 od27 an27 od28 an28 od29 an29 od30 an30 od31 an31 od32 an32 od33 an33 od34 an34 od35 an35 od36 an36 od37 an37 od38 an38 od39 an39 od40 an40 od41 an41 od42 an42 od43 an43 od44 an44 od45 an45 od46 an46 od47 an47 od48 an48 od49 an49 od50 an50 od51 an51 od52 an52 od53 an53 od54 an54 od55 an55 od56 an56 od57 an57 od58 an58 od59 an59 od60 an60 od61 an61 od62 an62 od63 an63 od64 an64 od65 an65 od66 an66 od67 an67 od68 an68 od69 an69 od70 an70 od71 an71 od72 an72 od73 an73 od74 an74 od75 an75 od76 an76 od77 an77 : Option Addr} {sl0 sl1 sl2 sl3 sl4 sl5 sl6 sl7 sl8 sl9 sl10 sl11 sl12 sl13 sl14 sl15 sl16 sl17 sl18 sl19 sl20 sl21 sl22 sl23 sl24 sl25 sl26 sl27 sl28 sl29 sl30 sl31 sl32 sl33 sl34 sl35 sl36 sl37 sl38 sl39 sl40 sl41 sl42 sl43 sl44 sl45 sl46 sl47 sl48 sl49 sl50 sl51 sl52 sl53 sl54 sl55 sl56 sl57 sl58 sl59 sl60 sl61 sl62 sl63 sl64 sl65 sl66 sl67 sl68 sl69 sl70 sl71 sl72 sl73 sl74 sl75 sl76 sl77 : Array (Option Value)} {oc0 kV0 dc0 pm0 cd0 ct0 oc1 kV1 dc1 pm1 cd1 ct1 oc2 kV2 dc2 pm2 cd2 ct2 oc3 kV3 dc3 pm3 cd3 ct3 oc4 kV4 dc4 pm4 cd4 ct4 oc5 kV5 dc5 pm5 cd5 ct5 oc6 kV6 dc6 pm6 cd6 ct6 oc7 kV7 dc7 pm7 cd7 ct7 oc8 kV8 dc8 pm8 cd8 ct8 oc9 kV9 dc9 pm9 cd9 ct9 oc10 kV10 dc10 pm10 cd10 ct10 oc11 kV11 dc11 pm11 cd11 ct11 oc12 kV12 dc12 pm12 cd12 ct12 oc13 kV13 dc13 pm13 cd13 ct13 oc14 kV14 dc14 pm14 cd14 ct14 oc15 kV15 dc15 pm15 cd15 ct15 oc16 kV16 dc16 pm16 cd16 ct16 oc17 kV17 dc17 pm17 cd17 ct17 oc18 kV18 dc18 pm18 cd18 ct18 oc19 kV19 dc19 pm19 cd19 ct19 oc20 kV20 dc20 pm20 cd20 ct20 oc21 kV21 dc21 pm21 cd21 ct21 oc22 kV22 dc22 pm22 cd22 ct22 oc23 kV23 dc23 pm23 cd23 ct23 oc24 kV24 dc24 pm24 cd24 ct24 oc25 kV25 dc25 pm25 cd25 ct25 oc26 kV26 dc26 pm26 cd26 ct26 oc27 kV27 dc27 pm27 cd27 ct27 oc28 kV28 dc28 pm28 cd28 ct28 oc29 kV29 dc29 pm29 cd29 ct29 oc30 kV30 dc30 pm30 cd30 ct30 oc31 kV31 dc31 pm31 cd31 ct31 oc32 kV32 dc32 pm32 cd32 ct32 oc33 kV33 dc33 pm33 cd33 ct33 oc34 kV34 dc34 pm34 cd34 ct34 oc35 kV35 dc35 pm35 cd35 ct35 oc36 kV36 dc36 pm36 cd36 ct36 oc37 kV37 dc37 pm37 cd37 ct37 oc38 kV38 dc38 pm38 cd38 ct38 oc39 kV39 dc39 pm39 cd39 ct39 oc40 kV40 dc40 pm40 cd40 ct40 oc41 kV41 dc41 pm41 cd41 ct41 oc42 kV42 dc42 pm42 cd42 ct42 oc43 kV43 dc43 pm43 cd43 ct43 oc44 kV44 dc44 pm44 cd44 ct44 oc45 kV45 dc45 pm45 cd45 ct45 oc46 kV46 dc46 pm46 cd46 ct46 oc47 dc47 pm47 cd47 ct47 oc48 kV48 dc48 pm48 cd48 ct48 oc49 kV49 dc49 pm49 cd49 ct49 oc50 kV50 dc50 pm50 cd50 ct50 oc51 kV51 dc51 pm51 cd51 ct51 oc52 kV52 dc52 pm52 cd52 ct52 oc53 kV53 dc53 pm53 cd53 ct53 oc54 kV54 dc54 pm54 cd54 ct54 oc55 kV55 dc55 pm55 cd55 ct55 oc56 kV56 dc56 pm56 cd56 ct56 oc57 kV57 dc57 pm57 cd57 ct57 oc58 kV58 dc58 pm58 cd58 ct58 oc59 kV59 dc59 pm59 cd59 ct59 oc60 kV60 dc60 pm60 cd60 ct60 oc61 kV61 dc61 pm61 cd61 ct61 oc62 kV62 dc62 pm62 cd62 ct62 oc63 kV63 dc63 pm63 cd63 ct63 oc64 kV64 dc64 pm64 cd64 ct64 oc65 kV65 dc65 pm65 cd65 ct65 oc66 kV66 dc66 pm66 cd66 ct66 oc67 kV67 dc67 pm67 cd67 ct67 oc68 kV68 dc68 pm68 cd68 ct68 oc69 kV69 dc69 pm69 cd69 ct69 oc70 kV70 dc70 pm70 cd70 ct70 oc71 kV71 dc71 pm71 cd71 ct71 oc72 kV72 dc72 pm72 cd72 ct72 oc73 kV73 dc73 pm73 cd73 ct73 oc74 kV74 dc74 pm74 cd74 ct74 oc75 kV75 dc75 pm75 cd75 ct75 oc76 kV76 dc76 pm76 cd76 ct76 oc77 kV77 dc77 pm77 cd77 ct77 : Value}
    (a0 : PySem.W.nsIn K mainGlobals "imported_items" = some (some (.ref f0))) (l0 : K.lookup f0 = some ⟨oc0, od0, .func (PySem.W.fnOf "imported_items" "imported_items" (defArgs s_imported_items) (defBody s_imported_items) (defScope s_imported_items) .none kV0 dc0 pm0 an0 cd0 ct0), sl0⟩) (c0 : PySem.W.codeIn K cd0 "imported_items" = true) (k0 : PySem.W.keepIn K (.ref f0) = true)
    (a1 : PySem.W.nsIn K mainGlobals "function_signatures" = some (some (.ref f1))) (l1 : K.lookup f1 = some ⟨oc1, od1, .func (PySem.W.fnOf "function_signatures" "function_signatures" (defArgs s_function_signatures) (defBody s_function_signatures) (defScope s_function_signatures) .none kV1 dc1 pm1 an1 cd1 ct1), sl1⟩) (c1 : PySem.W.codeIn K cd1 "function_signatures" = true) (k1 : PySem.W.keepIn K (.ref f1) = true)
    (a2 : PySem.W.nsIn K mainGlobals "table_limits" = some (some (.ref f2))) (l2 : K.lookup f2 = some ⟨oc2, od2, .func (PySem.W.fnOf "table_limits" "table_limits" (defArgs s_table_limits) (defBody s_table_limits) (defScope s_table_limits) .none kV2 dc2 pm2 an2 cd2 ct2), sl2⟩) (c2 : PySem.W.codeIn K cd2 "table_limits" = true) (k2 : PySem.W.keepIn K (.ref f2) = true)
    (a3 : PySem.W.nsIn K mainGlobals "memory_limits" = some (some (.ref f3))) (l3 : K.lookup f3 = some ⟨oc3, od3, .func (PySem.W.fnOf "memory_limits" "memory_limits" (defArgs s_memory_limits) (defBody s_memory_limits) (defScope s_memory_limits) .none kV3 dc3 pm3 an3 cd3 ct3), sl3⟩) (c3 : PySem.W.codeIn K cd3 "memory_limits" = true) (k3 : PySem.W.keepIn K (.ref f3) = true)
    (a4 : PySem.W.nsIn K mainGlobals "global_heads" = some (some (.ref f4))) (l4 : K.lookup f4 = some ⟨oc4, od4, .func (PySem.W.fnOf "global_heads" "global_heads" (defArgs s_global_heads) (defBody s_global_heads) (defScope s_global_heads) .none kV4 dc4 pm4 an4 cd4 ct4), sl4⟩) (c4 : PySem.W.codeIn K cd4 "global_heads" = true) (k4 : PySem.W.keepIn K (.ref f4) = true)
    (a5 : PySem.W.nsIn K mainGlobals "tag_signatures" = some (some (.ref f5))) (l5 : K.lookup f5 = some ⟨oc5, od5, .func (PySem.W.fnOf "tag_signatures" "tag_signatures" (defArgs s_tag_signatures) (defBody s_tag_signatures) (defScope s_tag_signatures) .none kV5 dc5 pm5 an5 cd5 ct5), sl5⟩) (c5 : PySem.W.codeIn K cd5 "tag_signatures" = true) (k5 : PySem.W.keepIn K (.ref f5) = true)
    (a6 : PySem.W.nsIn K mainGlobals "all_items" = some (some (.ref f6))) (l6 : K.lookup f6 = some ⟨oc6, od6, .func (PySem.W.fnOf "all_items" "all_items" (defArgs s_all_items) (defBody s_all_items) (defScope s_all_items) .none kV6 dc6 pm6 an6 cd6 ct6), sl6⟩) (c6 : PySem.W.codeIn K cd6 "all_items" = true) (k6 : PySem.W.keepIn K (.ref f6) = true)
    (a7 : PySem.W.nsIn K mainGlobals "count_items" = some (some (.ref f7))) (l7 : K.lookup f7 = some ⟨oc7, od7, .func (PySem.W.fnOf "count_items" "count_items" (defArgs s_count_items) (defBody s_count_items) (defScope s_count_items) .none kV7 dc7 pm7 an7 cd7 ct7), sl7⟩) (c7 : PySem.W.codeIn K cd7 "count_items" = true) (k7 : PySem.W.keepIn K (.ref f7) = true)
    (a8 : PySem.W.nsIn K mainGlobals "shape_kinds" = some (some (.ref f8))) (l8 : K.lookup f8 = some ⟨oc8, od8, .func (PySem.W.fnOf "shape_kinds" "shape_kinds" (defArgs s_shape_kinds) (defBody s_shape_kinds) (defScope s_shape_kinds) .none kV8 dc8 pm8 an8 cd8 ct8), sl8⟩) (c8 : PySem.W.codeIn K cd8 "shape_kinds" = true) (k8 : PySem.W.keepIn K (.ref f8) = true)
    (a9 : PySem.W.nsIn K mainGlobals "bodies_of" = some (some (.ref f9))) (l9 : K.lookup f9 = some ⟨oc9, od9, .func (PySem.W.fnOf "bodies_of" "bodies_of" (defArgs s_bodies_of) (defBody s_bodies_of) (defScope s_bodies_of) .none kV9 dc9 pm9 an9 cd9 ct9), sl9⟩) (c9 : PySem.W.codeIn K cd9 "bodies_of" = true) (k9 : PySem.W.keepIn K (.ref f9) = true)
    (a10 : PySem.W.nsIn K mainGlobals "local_get" = some (some (.ref f10))) (l10 : K.lookup f10 = some ⟨oc10, od10, .func (PySem.W.fnOf "local_get" "local_get" (defArgs s_local_get) (defBody s_local_get) (defScope s_local_get) .none kV10 dc10 pm10 an10 cd10 ct10), sl10⟩) (c10 : PySem.W.codeIn K cd10 "local_get" = true) (k10 : PySem.W.keepIn K (.ref f10) = true)
    (a11 : PySem.W.nsIn K mainGlobals "local_set" = some (some (.ref f11))) (l11 : K.lookup f11 = some ⟨oc11, od11, .func (PySem.W.fnOf "local_set" "local_set" (defArgs s_local_set) (defBody s_local_set) (defScope s_local_set) .none kV11 dc11 pm11 an11 cd11 ct11), sl11⟩) (c11 : PySem.W.codeIn K cd11 "local_set" = true) (k11 : PySem.W.keepIn K (.ref f11) = true)
    (a12 : PySem.W.nsIn K mainGlobals "local_tee" = some (some (.ref f12))) (l12 : K.lookup f12 = some ⟨oc12, od12, .func (PySem.W.fnOf "local_tee" "local_tee" (defArgs s_local_tee) (defBody s_local_tee) (defScope s_local_tee) .none kV12 dc12 pm12 an12 cd12 ct12), sl12⟩) (c12 : PySem.W.codeIn K cd12 "local_tee" = true) (k12 : PySem.W.keepIn K (.ref f12) = true)
    (a13 : PySem.W.nsIn K mainGlobals "global_get" = some (some (.ref f13))) (l13 : K.lookup f13 = some ⟨oc13, od13, .func (PySem.W.fnOf "global_get" "global_get" (defArgs s_global_get) (defBody s_global_get) (defScope s_global_get) .none kV13 dc13 pm13 an13 cd13 ct13), sl13⟩) (c13 : PySem.W.codeIn K cd13 "global_get" = true) (k13 : PySem.W.keepIn K (.ref f13) = true)
    (a14 : PySem.W.nsIn K mainGlobals "global_set" = some (some (.ref f14))) (l14 : K.lookup f14 = some ⟨oc14, od14, .func (PySem.W.fnOf "global_set" "global_set" (defArgs s_global_set) (defBody s_global_set) (defScope s_global_set) .none kV14 dc14 pm14 an14 cd14 ct14), sl14⟩) (c14 : PySem.W.codeIn K cd14 "global_set" = true) (k14 : PySem.W.keepIn K (.ref f14) = true)
    (a15 : PySem.W.nsIn K mainGlobals "br" = some (some (.ref f15))) (l15 : K.lookup f15 = some ⟨oc15, od15, .func (PySem.W.fnOf "br" "br" (defArgs s_br) (defBody s_br) (defScope s_br) .none kV15 dc15 pm15 an15 cd15 ct15), sl15⟩) (c15 : PySem.W.codeIn K cd15 "br" = true) (k15 : PySem.W.keepIn K (.ref f15) = true)
    (a16 : PySem.W.nsIn K mainGlobals "br_if" = some (some (.ref f16))) (l16 : K.lookup f16 = some ⟨oc16, od16, .func (PySem.W.fnOf "br_if" "br_if" (defArgs s_br_if) (defBody s_br_if) (defScope s_br_if) .none kV16 dc16 pm16 an16 cd16 ct16), sl16⟩) (c16 : PySem.W.codeIn K cd16 "br_if" = true) (k16 : PySem.W.keepIn K (.ref f16) = true)
    (a17 : PySem.W.nsIn K mainGlobals "return_effect" = some (some (.ref f17))) (l17 : K.lookup f17 = some ⟨oc17, od17, .func (PySem.W.fnOf "return_effect" "return_effect" (defArgs s_return_effect) (defBody s_return_effect) (defScope s_return_effect) .none kV17 dc17 pm17 an17 cd17 ct17), sl17⟩) (c17 : PySem.W.codeIn K cd17 "return_effect" = true) (k17 : PySem.W.keepIn K (.ref f17) = true)
    (a18 : PySem.W.nsIn K mainGlobals "call" = some (some (.ref f18))) (l18 : K.lookup f18 = some ⟨oc18, od18, .func (PySem.W.fnOf "call" "call" (defArgs s_call) (defBody s_call) (defScope s_call) .none kV18 dc18 pm18 an18 cd18 ct18), sl18⟩) (c18 : PySem.W.codeIn K cd18 "call" = true) (k18 : PySem.W.keepIn K (.ref f18) = true)
    (a19 : PySem.W.nsIn K mainGlobals "call_indirect" = some (some (.ref f19))) (l19 : K.lookup f19 = some ⟨oc19, od19, .func (PySem.W.fnOf "call_indirect" "call_indirect" (defArgs s_call_indirect) (defBody s_call_indirect) (defScope s_call_indirect) .none kV19 dc19 pm19 an19 cd19 ct19), sl19⟩) (c19 : PySem.W.codeIn K cd19 "call_indirect" = true) (k19 : PySem.W.keepIn K (.ref f19) = true)
    (a20 : PySem.W.nsIn K mainGlobals "throw" = some (some (.ref f20))) (l20 : K.lookup f20 = some ⟨oc20, od20, .func (PySem.W.fnOf "throw" "throw" (defArgs s_throw) (defBody s_throw) (defScope s_throw) .none kV20 dc20 pm20 an20 cd20 ct20), sl20⟩) (c20 : PySem.W.codeIn K cd20 "throw" = true) (k20 : PySem.W.keepIn K (.ref f20) = true)
    (a21 : PySem.W.nsIn K mainGlobals "access_effect" = some (some (.ref f21))) (l21 : K.lookup f21 = some ⟨oc21, od21, .func (PySem.W.fnOf "access_effect" "access_effect" (defArgs s_access_effect) (defBody s_access_effect) (defScope s_access_effect) .none kV21 dc21 pm21 an21 cd21 ct21), sl21⟩) (c21 : PySem.W.codeIn K cd21 "access_effect" = true) (k21 : PySem.W.keepIn K (.ref f21) = true)
    (a22 : PySem.W.nsIn K mainGlobals "effect_of" = some (some (.ref f22))) (l22 : K.lookup f22 = some ⟨oc22, od22, .func (PySem.W.fnOf "effect_of" "effect_of" (defArgs s_effect_of) (defBody s_effect_of) (defScope s_effect_of) .none kV22 dc22 pm22 an22 cd22 ct22), sl22⟩) (c22 : PySem.W.codeIn K cd22 "effect_of" = true) (k22 : PySem.W.keepIn K (.ref f22) = true)
    (a23 : PySem.W.nsIn K mainGlobals "agree" = some (some (.ref f23))) (l23 : K.lookup f23 = some ⟨oc23, od23, .func (PySem.W.fnOf "agree" "agree" (defArgs s_agree) (defBody s_agree) (defScope s_agree) .none kV23 dc23 pm23 an23 cd23 ct23), sl23⟩) (c23 : PySem.W.codeIn K cd23 "agree" = true) (k23 : PySem.W.keepIn K (.ref f23) = true)
    (a24 : PySem.W.nsIn K mainGlobals "walk_through" = some (some (.ref f24))) (l24 : K.lookup f24 = some ⟨oc24, od24, .func (PySem.W.fnOf "walk_through" "walk_through" (defArgs s_walk_through) (defBody s_walk_through) (defScope s_walk_through) .none kV24 dc24 pm24 an24 cd24 ct24), sl24⟩) (c24 : PySem.W.codeIn K cd24 "walk_through" = true) (k24 : PySem.W.keepIn K (.ref f24) = true)
    (a25 : PySem.W.nsIn K mainGlobals "signature_reason" = some (some (.ref f25))) (l25 : K.lookup f25 = some ⟨oc25, od25, .func (PySem.W.fnOf "signature_reason" "signature_reason" (defArgs s_signature_reason) (defBody s_signature_reason) (defScope s_signature_reason) .none kV25 dc25 pm25 an25 cd25 ct25), sl25⟩) (c25 : PySem.W.codeIn K cd25 "signature_reason" = true) (k25 : PySem.W.keepIn K (.ref f25) = true)
    (a26 : PySem.W.nsIn K mainGlobals "tag_reason" = some (some (.ref f26))) (l26 : K.lookup f26 = some ⟨oc26, od26, .func (PySem.W.fnOf "tag_reason" "tag_reason" (defArgs s_tag_reason) (defBody s_tag_reason) (defScope s_tag_reason) .none kV26 dc26 pm26 an26 cd26 ct26), sl26⟩) (c26 : PySem.W.codeIn K cd26 "tag_reason" = true) (k26 : PySem.W.keepIn K (.ref f26) = true)
    (a27 : PySem.W.nsIn K mainGlobals "table_reason" = some (some (.ref f27))) (l27 : K.lookup f27 = some ⟨oc27, od27, .func (PySem.W.fnOf "table_reason" "table_reason" (defArgs s_table_reason) (defBody s_table_reason) (defScope s_table_reason) .none kV27 dc27 pm27 an27 cd27 ct27), sl27⟩) (c27 : PySem.W.codeIn K cd27 "table_reason" = true) (k27 : PySem.W.keepIn K (.ref f27) = true)
    (a28 : PySem.W.nsIn K mainGlobals "memory_reason" = some (some (.ref f28))) (l28 : K.lookup f28 = some ⟨oc28, od28, .func (PySem.W.fnOf "memory_reason" "memory_reason" (defArgs s_memory_reason) (defBody s_memory_reason) (defScope s_memory_reason) .none kV28 dc28 pm28 an28 cd28 ct28), sl28⟩) (c28 : PySem.W.codeIn K cd28 "memory_reason" = true) (k28 : PySem.W.keepIn K (.ref f28) = true)
    (a29 : PySem.W.nsIn K mainGlobals "import_reason" = some (some (.ref f29))) (l29 : K.lookup f29 = some ⟨oc29, od29, .func (PySem.W.fnOf "import_reason" "import_reason" (defArgs s_import_reason) (defBody s_import_reason) (defScope s_import_reason) .none kV29 dc29 pm29 an29 cd29 ct29), sl29⟩) (c29 : PySem.W.codeIn K cd29 "import_reason" = true) (k29 : PySem.W.keepIn K (.ref f29) = true)
    (a30 : PySem.W.nsIn K mainGlobals "function_reason" = some (some (.ref f30))) (l30 : K.lookup f30 = some ⟨oc30, od30, .func (PySem.W.fnOf "function_reason" "function_reason" (defArgs s_function_reason) (defBody s_function_reason) (defScope s_function_reason) .none kV30 dc30 pm30 an30 cd30 ct30), sl30⟩) (c30 : PySem.W.codeIn K cd30 "function_reason" = true) (k30 : PySem.W.keepIn K (.ref f30) = true)
    (a31 : PySem.W.nsIn K mainGlobals "constant_reason" = some (some (.ref f31))) (l31 : K.lookup f31 = some ⟨oc31, od31, .func (PySem.W.fnOf "constant_reason" "constant_reason" (defArgs s_constant_reason) (defBody s_constant_reason) (defScope s_constant_reason) .none kV31 dc31 pm31 an31 cd31 ct31), sl31⟩) (c31 : PySem.W.codeIn K cd31 "constant_reason" = true) (k31 : PySem.W.keepIn K (.ref f31) = true)
    (a32 : PySem.W.nsIn K mainGlobals "global_reason" = some (some (.ref f32))) (l32 : K.lookup f32 = some ⟨oc32, od32, .func (PySem.W.fnOf "global_reason" "global_reason" (defArgs s_global_reason) (defBody s_global_reason) (defScope s_global_reason) .none kV32 dc32 pm32 an32 cd32 ct32), sl32⟩) (c32 : PySem.W.codeIn K cd32 "global_reason" = true) (k32 : PySem.W.keepIn K (.ref f32) = true)
    (a33 : PySem.W.nsIn K mainGlobals "start_reason" = some (some (.ref f33))) (l33 : K.lookup f33 = some ⟨oc33, od33, .func (PySem.W.fnOf "start_reason" "start_reason" (defArgs s_start_reason) (defBody s_start_reason) (defScope s_start_reason) .none kV33 dc33 pm33 an33 cd33 ct33), sl33⟩) (c33 : PySem.W.codeIn K cd33 "start_reason" = true) (k33 : PySem.W.keepIn K (.ref f33) = true)
    (a34 : PySem.W.nsIn K mainGlobals "table_segment_reason" = some (some (.ref f34))) (l34 : K.lookup f34 = some ⟨oc34, od34, .func (PySem.W.fnOf "table_segment_reason" "table_segment_reason" (defArgs s_table_segment_reason) (defBody s_table_segment_reason) (defScope s_table_segment_reason) .none kV34 dc34 pm34 an34 cd34 ct34), sl34⟩) (c34 : PySem.W.codeIn K cd34 "table_segment_reason" = true) (k34 : PySem.W.keepIn K (.ref f34) = true)
    (a35 : PySem.W.nsIn K mainGlobals "memory_segment_reason" = some (some (.ref f35))) (l35 : K.lookup f35 = some ⟨oc35, od35, .func (PySem.W.fnOf "memory_segment_reason" "memory_segment_reason" (defArgs s_memory_segment_reason) (defBody s_memory_segment_reason) (defScope s_memory_segment_reason) .none kV35 dc35 pm35 an35 cd35 ct35), sl35⟩) (c35 : PySem.W.codeIn K cd35 "memory_segment_reason" = true) (k35 : PySem.W.keepIn K (.ref f35) = true)
    (a36 : PySem.W.nsIn K mainGlobals "first_fault" = some (some (.ref f36))) (l36 : K.lookup f36 = some ⟨oc36, od36, .func (PySem.W.fnOf "first_fault" "first_fault" (defArgs s_first_fault) (defBody s_first_fault) (defScope s_first_fault) .none kV36 dc36 pm36 an36 cd36 ct36), sl36⟩) (c36 : PySem.W.codeIn K cd36 "first_fault" = true) (k36 : PySem.W.keepIn K (.ref f36) = true)
    (a37 : PySem.W.nsIn K mainGlobals "memory_count_fault" = some (some (.ref f37))) (l37 : K.lookup f37 = some ⟨oc37, od37, .func (PySem.W.fnOf "memory_count_fault" "memory_count_fault" (defArgs s_memory_count_fault) (defBody s_memory_count_fault) (defScope s_memory_count_fault) .none kV37 dc37 pm37 an37 cd37 ct37), sl37⟩) (c37 : PySem.W.codeIn K cd37 "memory_count_fault" = true) (k37 : PySem.W.keepIn K (.ref f37) = true)
    (a38 : PySem.W.nsIn K mainGlobals "export_fault" = some (some (.ref f38))) (l38 : K.lookup f38 = some ⟨oc38, od38, .func (PySem.W.fnOf "export_fault" "export_fault" (defArgs s_export_fault) (defBody s_export_fault) (defScope s_export_fault) .none kV38 dc38 pm38 an38 cd38 ct38), sl38⟩) (c38 : PySem.W.codeIn K cd38 "export_fault" = true) (k38 : PySem.W.keepIn K (.ref f38) = true)
    (a39 : PySem.W.nsIn K mainGlobals "start_fault" = some (some (.ref f39))) (l39 : K.lookup f39 = some ⟨oc39, od39, .func (PySem.W.fnOf "start_fault" "start_fault" (defArgs s_start_fault) (defBody s_start_fault) (defScope s_start_fault) .none kV39 dc39 pm39 an39 cd39 ct39), sl39⟩) (c39 : PySem.W.codeIn K cd39 "start_fault" = true) (k39 : PySem.W.keepIn K (.ref f39) = true)
    (a40 : PySem.W.nsIn K mainGlobals "code_fault" = some (some (.ref f40))) (l40 : K.lookup f40 = some ⟨oc40, od40, .func (PySem.W.fnOf "code_fault" "code_fault" (defArgs s_code_fault) (defBody s_code_fault) (defScope s_code_fault) .none kV40 dc40 pm40 an40 cd40 ct40), sl40⟩) (c40 : PySem.W.codeIn K cd40 "code_fault" = true) (k40 : PySem.W.keepIn K (.ref f40) = true)
    (a41 : PySem.W.nsIn K mainGlobals "check" = some (some (.ref f41))) (l41 : K.lookup f41 = some ⟨oc41, od41, .func (PySem.W.fnOf "check" "check" (defArgs s_check) (defBody s_check) (defScope s_check) .none kV41 dc41 pm41 an41 cd41 ct41), sl41⟩) (c41 : PySem.W.codeIn K cd41 "check" = true) (k41 : PySem.W.keepIn K (.ref f41) = true)
    (a42 : PySem.W.nsIn K mainGlobals "_law_state" = some (some (.ref f42))) (l42 : K.lookup f42 = some ⟨oc42, od42, .func (PySem.W.fnOf "_law_state" "_law_state" (defArgs s__law_state) (defBody s__law_state) (defScope s__law_state) .none kV42 dc42 pm42 an42 cd42 ct42), sl42⟩) (c42 : PySem.W.codeIn K cd42 "_law_state" = true) (k42 : PySem.W.keepIn K (.ref f42) = true)
    (a43 : PySem.W.nsIn K mainGlobals "_law_draw" = some (some (.ref f43))) (l43 : K.lookup f43 = some ⟨oc43, od43, .func (PySem.W.fnOf "_law_draw" "_law_draw" (defArgs s__law_draw) (defBody s__law_draw) (defScope s__law_draw) .none kV43 dc43 pm43 an43 cd43 ct43), sl43⟩) (c43 : PySem.W.codeIn K cd43 "_law_draw" = true) (k43 : PySem.W.keepIn K (.ref f43) = true)
    (a44 : PySem.W.nsIn K mainGlobals "_law_access" = some (some (.ref f44))) (l44 : K.lookup f44 = some ⟨oc44, od44, .func (PySem.W.fnOf "_law_access" "_law_access" (defArgs s__law_access) (defBody s__law_access) (defScope s__law_access) .none kV44 dc44 pm44 an44 cd44 ct44), sl44⟩) (c44 : PySem.W.codeIn K cd44 "_law_access" = true) (k44 : PySem.W.keepIn K (.ref f44) = true)
    (a45 : PySem.W.nsIn K mainGlobals "_law_case" = some (some (.ref f45))) (l45 : K.lookup f45 = some ⟨oc45, od45, .func (PySem.W.fnOf "_law_case" "_law_case" (defArgs s__law_case) (defBody s__law_case) (defScope s__law_case) .none kV45 dc45 pm45 an45 cd45 ct45), sl45⟩) (c45 : PySem.W.codeIn K cd45 "_law_case" = true) (k45 : PySem.W.keepIn K (.ref f45) = true)
    (a46 : PySem.W.nsIn K mainGlobals "law" = some (some (.ref f46))) (l46 : K.lookup f46 = some ⟨oc46, od46, .func (PySem.W.fnOf "law" "law" (defArgs s_law) (defBody s_law) (defScope s_law) .none kV46 dc46 pm46 an46 cd46 ct46), sl46⟩) (c46 : PySem.W.codeIn K cd46 "law" = true) (k46 : PySem.W.keepIn K (.ref f46) = true)
    (z_abs : PySem.W.nsIn K mainGlobals "abs" = some none)
    (z_enumerate : PySem.W.nsIn K mainGlobals "enumerate" = some none)
    (z_int : PySem.W.nsIn K mainGlobals "int" = some none)
    (z_len : PySem.W.nsIn K mainGlobals "len" = some none)
    (z_list : PySem.W.nsIn K mainGlobals "list" = some none)
    (z_min : PySem.W.nsIn K mainGlobals "min" = some none)
    (z_range : PySem.W.nsIn K mainGlobals "range" = some none)
    (z_tuple : PySem.W.nsIn K mainGlobals "tuple" = some none)
    (z_zip : PySem.W.nsIn K mainGlobals "zip" = some none)
    {cC_HostError cC_CodeFault cI_CodeFault : Addr}
    (sp0 : PySem.W.specialIn K (.builtin "object.__class__") "__get__" = some (some (.builtin "getset_descriptor.__get__"))) (tk0 : PySem.W.takesIn K (.builtin "object.__class__") = some true)
    (aC_HostError : PySem.W.nsIn K mainGlobals "HostError" = some (some (.ref cC_HostError)))
    (aC_CodeFault : PySem.W.nsIn K mainGlobals "CodeFault" = some (some (.ref cC_CodeFault)))
    (ex_HostError : PySem.W.subIn K (.ref cC_HostError) (.type "BaseException") = some true)
    (ty_HostError : PySem.W.typeIn K (.ref cC_HostError) = some (.type "type"))
    (hd_HostError : PySem.W.hasDictIn K cC_HostError = true)
    (ex_CodeFault : PySem.W.subIn K (.ref cC_CodeFault) (.type "BaseException") = some true)
    (ty_CodeFault : PySem.W.typeIn K (.ref cC_CodeFault) = some (.type "type"))
    (hd_CodeFault : PySem.W.hasDictIn K cC_CodeFault = true)
    {nm_CodeFault qn_CodeFault : Str} {N_CodeFault : Addr} {bs_CodeFault : List Value} {sn_CodeFault : List Str} {sub_CodeFault : List Value} {ab_CodeFault : Bool} {col_CodeFault : Option Bool} {dd_CodeFault : Option Addr} {m0_CodeFault m1_CodeFault m2_CodeFault m3_CodeFault m5_CodeFault : Option Value}
    (xl_CodeFault : K.lookup cC_CodeFault = some (excClassObj nm_CodeFault qn_CodeFault cC_CodeFault N_CodeFault bs_CodeFault [.ref cC_HostError, .type "ValueError", .type "Exception", .type "BaseException", .type "object"] true sn_CodeFault sub_CodeFault ab_CodeFault col_CodeFault dd_CodeFault m0_CodeFault m1_CodeFault m2_CodeFault m3_CodeFault m5_CodeFault "ValueError.__new__"))
    (sa_CodeFault : PySem.W.findIn K (.ref cC_CodeFault) "__setattr__" = some (some (.builtin "object.__setattr__")))
    (ga_CodeFault : PySem.W.findIn K (.ref cC_CodeFault) "__getattribute__" = some (some (.builtin "BaseException.__getattribute__")))
    (gg_CodeFault : PySem.W.findIn K (.ref cC_CodeFault) "__getattr__" = some none)
    (ca_CodeFault : PySem.W.findIn K (.ref cC_CodeFault) "__class__" = some (some (.builtin "object.__class__")))
    (kp_CodeFault : PySem.W.keepIn K (.ref cC_CodeFault) = true)
    (mr_CodeFault : PySem.W.mroIn K cC_CodeFault (.type "object") = some true)
    {odI_CodeFault anI_CodeFault : Option Addr} {slI_CodeFault : Array (Option Value)} {ocI_CodeFault kVI_CodeFault dcI_CodeFault pmI_CodeFault cdI_CodeFault ctI_CodeFault : Value}
    (aI_CodeFault : PySem.W.findIn K (.ref cC_CodeFault) "__init__" = some (some (.ref cI_CodeFault))) (tI_CodeFault : PySem.W.typeIn K (.ref cI_CodeFault) = some (.type "function"))
    (lI_CodeFault : K.lookup cI_CodeFault = some ⟨ocI_CodeFault, odI_CodeFault, .func (PySem.W.fnOf "__init__" "CodeFault.__init__" (defArgs i_CodeFault) (defBody i_CodeFault) (defScope i_CodeFault) .none kVI_CodeFault dcI_CodeFault pmI_CodeFault anI_CodeFault cdI_CodeFault ctI_CodeFault), slI_CodeFault⟩) (cdo_CodeFault : PySem.W.codeIn K cdI_CodeFault "CodeFault.__init__" = true) (kI_CodeFault : PySem.W.keepIn K (.ref cI_CodeFault) = true)
    (no_CodeFault_reason : PySem.W.findIn K (.ref cC_CodeFault) "reason" = some none)
    (sub_CodeFault_HostError : PySem.W.subIn K (.ref cC_CodeFault) (.ref cC_HostError) = some true) (ne_CodeFault_HostError : (Value.ref cC_CodeFault == Value.ref cC_HostError) = false)
    (sub_CodeFault_CodeFault : PySem.W.subIn K (.ref cC_CodeFault) (.ref cC_CodeFault) = some true)
    (sub_CodeFault_VE : PySem.W.subIn K (.ref cC_CodeFault) (.type "ValueError") = some true)
    {cC_Module : Addr}
    (aC_Module : PySem.W.nsIn K mainGlobals "Module" = some (some (.ref cC_Module)))
    {cC_Scope : Addr}
    (aC_Scope : PySem.W.nsIn K mainGlobals "Scope" = some (some (.ref cC_Scope)))
    {cC_Level : Addr}
    (aC_Level : PySem.W.nsIn K mainGlobals "Level" = some (some (.ref cC_Level)))
    {cC_KindStack : Addr}
    (aC_KindStack : PySem.W.nsIn K mainGlobals "KindStack" = some (some (.ref cC_KindStack)))
    {cC_Walker : Addr}
    (aC_Walker : PySem.W.nsIn K mainGlobals "Walker" = some (some (.ref cC_Walker)))
    {ct_LISTS ct_BLOCKS ct_ACCESS_BITS ct_MOST_EXPONENTS ct_RULES ct_MEMORY_EFFECTS ct_PLAIN_EFFECTS ct_LOOSENING ct_UNKNOWN : Addr}
    (at_LISTS : PySem.W.nsIn K mainGlobals "LISTS" = some (some (.ref ct_LISTS)))
    {es_LISTS : Array DictEntry} {n_LISTS : Nat} (lt_LISTS : K.lookup ct_LISTS = some ⟨.type "dict", none, .dict es_LISTS n_LISTS, #[]⟩) (st_LISTS : (ct_LISTS == sysModules) = false)
    (at_BLOCKS : PySem.W.nsIn K mainGlobals "BLOCKS" = some (some (.ref ct_BLOCKS)))
    {od_BLOCKS : Option Addr} {its_BLOCKS : Array Value} {n_BLOCKS : Nat} {sl_BLOCKS : Array (Option Value)} (lt_BLOCKS : K.lookup ct_BLOCKS = some ⟨.type "tuple", od_BLOCKS, .seq its_BLOCKS n_BLOCKS, sl_BLOCKS⟩) (zt_BLOCKS : its_BLOCKS.size ≤ sizeLine) (vt_BLOCKS : Vals (v_BLOCKS.map V.str) its_BLOCKS.toList)
    (at_ACCESS_BITS : PySem.W.nsIn K mainGlobals "ACCESS_BITS" = some (some (.ref ct_ACCESS_BITS)))
    {es_ACCESS_BITS : Array DictEntry} {n_ACCESS_BITS : Nat} (lt_ACCESS_BITS : K.lookup ct_ACCESS_BITS = some ⟨.type "dict", none, .dict es_ACCESS_BITS n_ACCESS_BITS, #[]⟩) (st_ACCESS_BITS : (ct_ACCESS_BITS == sysModules) = false)
    (at_MOST_EXPONENTS : PySem.W.nsIn K mainGlobals "MOST_EXPONENTS" = some (some (.ref ct_MOST_EXPONENTS)))
    {es_MOST_EXPONENTS : Array DictEntry} {n_MOST_EXPONENTS : Nat} (lt_MOST_EXPONENTS : K.lookup ct_MOST_EXPONENTS = some ⟨.type "dict", none, .dict es_MOST_EXPONENTS n_MOST_EXPONENTS, #[]⟩) (st_MOST_EXPONENTS : (ct_MOST_EXPONENTS == sysModules) = false)
    (at_RULES : PySem.W.nsIn K mainGlobals "RULES" = some (some (.ref ct_RULES)))
    {es_RULES : Array DictEntry} {n_RULES : Nat} (lt_RULES : K.lookup ct_RULES = some ⟨.type "dict", none, .dict es_RULES n_RULES, #[]⟩) (st_RULES : (ct_RULES == sysModules) = false)
    (at_MEMORY_EFFECTS : PySem.W.nsIn K mainGlobals "MEMORY_EFFECTS" = some (some (.ref ct_MEMORY_EFFECTS)))
    {es_MEMORY_EFFECTS : Array DictEntry} {n_MEMORY_EFFECTS : Nat} (lt_MEMORY_EFFECTS : K.lookup ct_MEMORY_EFFECTS = some ⟨.type "dict", none, .dict es_MEMORY_EFFECTS n_MEMORY_EFFECTS, #[]⟩) (st_MEMORY_EFFECTS : (ct_MEMORY_EFFECTS == sysModules) = false)
    (at_PLAIN_EFFECTS : PySem.W.nsIn K mainGlobals "PLAIN_EFFECTS" = some (some (.ref ct_PLAIN_EFFECTS)))
    {es_PLAIN_EFFECTS : Array DictEntry} {n_PLAIN_EFFECTS : Nat} (lt_PLAIN_EFFECTS : K.lookup ct_PLAIN_EFFECTS = some ⟨.type "dict", none, .dict es_PLAIN_EFFECTS n_PLAIN_EFFECTS, #[]⟩) (st_PLAIN_EFFECTS : (ct_PLAIN_EFFECTS == sysModules) = false)
    (at_LOOSENING : PySem.W.nsIn K mainGlobals "LOOSENING" = some (some (.ref ct_LOOSENING)))
    {od_LOOSENING : Option Addr} {its_LOOSENING : Array Value} {n_LOOSENING : Nat} {sl_LOOSENING : Array (Option Value)} (lt_LOOSENING : K.lookup ct_LOOSENING = some ⟨.type "tuple", od_LOOSENING, .seq its_LOOSENING n_LOOSENING, sl_LOOSENING⟩) (zt_LOOSENING : its_LOOSENING.size ≤ sizeLine) (vt_LOOSENING : Vals (v_LOOSENING.map V.str) its_LOOSENING.toList)
    (at_UNKNOWN : PySem.W.nsIn K mainGlobals "UNKNOWN" = some (some (.ref ct_UNKNOWN)))
    {es_UNKNOWN : Array DictEntry} {n_UNKNOWN : Nat} (lt_UNKNOWN : K.lookup ct_UNKNOWN = some ⟨.type "dict", none, .dict es_UNKNOWN n_UNKNOWN, #[]⟩) (st_UNKNOWN : (ct_UNKNOWN == sysModules) = false)
    {cq_MEMORY_EFFECTS_0 cq_MEMORY_EFFECTS_0_0 cq_MEMORY_EFFECTS_0_1 : Addr}
    {cq_MEMORY_EFFECTS_1 cq_MEMORY_EFFECTS_1_0 cq_MEMORY_EFFECTS_1_1 : Addr}
    {cq_MEMORY_EFFECTS_2 cq_MEMORY_EFFECTS_2_0 cq_MEMORY_EFFECTS_2_1 : Addr}
    {cq_MEMORY_EFFECTS_3 cq_MEMORY_EFFECTS_3_0 cq_MEMORY_EFFECTS_3_1 : Addr}
    {cq_PLAIN_EFFECTS_0 cq_PLAIN_EFFECTS_0_0 cq_PLAIN_EFFECTS_0_1 : Addr}
    {cq_PLAIN_EFFECTS_1 cq_PLAIN_EFFECTS_1_0 cq_PLAIN_EFFECTS_1_1 : Addr}
    {cq_PLAIN_EFFECTS_2 cq_PLAIN_EFFECTS_2_0 cq_PLAIN_EFFECTS_2_1 : Addr}
    {cq_PLAIN_EFFECTS_3 cq_PLAIN_EFFECTS_3_0 cq_PLAIN_EFFECTS_3_1 : Addr}
    {cq_PLAIN_EFFECTS_4 cq_PLAIN_EFFECTS_4_0 cq_PLAIN_EFFECTS_4_1 : Addr}
    {ce_Module_signatures ce_Module_imports ce_Module_functions ce_Module_tables ce_Module_memories ce_Module_tags ce_Module_variables ce_Module_exports ce_Module_table_segments ce_Module_memory_segments : Addr}
    (vt_LISTS : Rows w.params es_LISTS.toList (v_LISTS (⟨cC_HostError, cC_CodeFault, cI_CodeFault, (PySem.W.fnOf "__init__" "CodeFault.__init__" (defArgs i_CodeFault) (defBody i_CodeFault) (defScope i_CodeFault) .none kVI_CodeFault dcI_CodeFault pmI_CodeFault anI_CodeFault cdI_CodeFault ctI_CodeFault), ct_LISTS, ct_BLOCKS, ct_ACCESS_BITS, ct_MOST_EXPONENTS, ct_RULES, ct_MEMORY_EFFECTS, ct_PLAIN_EFFECTS, ct_LOOSENING, ct_UNKNOWN, f29, f30, f27, f28, f26, f32, f34, f35, f33, f1, f2, f3, f4, f5, f10, f11, f12, f13, f14, f15, f16, f17, f18, f19, f20, cC_Module, cC_Scope, cC_Level, cC_KindStack, cC_Walker, ce_Module_signatures, ce_Module_imports, ce_Module_functions, ce_Module_tables, ce_Module_memories, ce_Module_tags, ce_Module_variables, ce_Module_exports, ce_Module_table_segments, ce_Module_memory_segments, cq_MEMORY_EFFECTS_0, cq_MEMORY_EFFECTS_1, cq_MEMORY_EFFECTS_2, cq_MEMORY_EFFECTS_3, cq_PLAIN_EFFECTS_0, cq_PLAIN_EFFECTS_1, cq_PLAIN_EFFECTS_2, cq_PLAIN_EFFECTS_3, cq_PLAIN_EFFECTS_4⟩ : Cs)))
    (vt_ACCESS_BITS : Rows w.params es_ACCESS_BITS.toList (v_ACCESS_BITS (⟨cC_HostError, cC_CodeFault, cI_CodeFault, (PySem.W.fnOf "__init__" "CodeFault.__init__" (defArgs i_CodeFault) (defBody i_CodeFault) (defScope i_CodeFault) .none kVI_CodeFault dcI_CodeFault pmI_CodeFault anI_CodeFault cdI_CodeFault ctI_CodeFault), ct_LISTS, ct_BLOCKS, ct_ACCESS_BITS, ct_MOST_EXPONENTS, ct_RULES, ct_MEMORY_EFFECTS, ct_PLAIN_EFFECTS, ct_LOOSENING, ct_UNKNOWN, f29, f30, f27, f28, f26, f32, f34, f35, f33, f1, f2, f3, f4, f5, f10, f11, f12, f13, f14, f15, f16, f17, f18, f19, f20, cC_Module, cC_Scope, cC_Level, cC_KindStack, cC_Walker, ce_Module_signatures, ce_Module_imports, ce_Module_functions, ce_Module_tables, ce_Module_memories, ce_Module_tags, ce_Module_variables, ce_Module_exports, ce_Module_table_segments, ce_Module_memory_segments, cq_MEMORY_EFFECTS_0, cq_MEMORY_EFFECTS_1, cq_MEMORY_EFFECTS_2, cq_MEMORY_EFFECTS_3, cq_PLAIN_EFFECTS_0, cq_PLAIN_EFFECTS_1, cq_PLAIN_EFFECTS_2, cq_PLAIN_EFFECTS_3, cq_PLAIN_EFFECTS_4⟩ : Cs)))
    (vt_MOST_EXPONENTS : RowsI es_MOST_EXPONENTS.toList (v_MOST_EXPONENTS (⟨cC_HostError, cC_CodeFault, cI_CodeFault, (PySem.W.fnOf "__init__" "CodeFault.__init__" (defArgs i_CodeFault) (defBody i_CodeFault) (defScope i_CodeFault) .none kVI_CodeFault dcI_CodeFault pmI_CodeFault anI_CodeFault cdI_CodeFault ctI_CodeFault), ct_LISTS, ct_BLOCKS, ct_ACCESS_BITS, ct_MOST_EXPONENTS, ct_RULES, ct_MEMORY_EFFECTS, ct_PLAIN_EFFECTS, ct_LOOSENING, ct_UNKNOWN, f29, f30, f27, f28, f26, f32, f34, f35, f33, f1, f2, f3, f4, f5, f10, f11, f12, f13, f14, f15, f16, f17, f18, f19, f20, cC_Module, cC_Scope, cC_Level, cC_KindStack, cC_Walker, ce_Module_signatures, ce_Module_imports, ce_Module_functions, ce_Module_tables, ce_Module_memories, ce_Module_tags, ce_Module_variables, ce_Module_exports, ce_Module_table_segments, ce_Module_memory_segments, cq_MEMORY_EFFECTS_0, cq_MEMORY_EFFECTS_1, cq_MEMORY_EFFECTS_2, cq_MEMORY_EFFECTS_3, cq_PLAIN_EFFECTS_0, cq_PLAIN_EFFECTS_1, cq_PLAIN_EFFECTS_2, cq_PLAIN_EFFECTS_3, cq_PLAIN_EFFECTS_4⟩ : Cs)))
    (vt_RULES : Rows w.params es_RULES.toList (v_RULES (⟨cC_HostError, cC_CodeFault, cI_CodeFault, (PySem.W.fnOf "__init__" "CodeFault.__init__" (defArgs i_CodeFault) (defBody i_CodeFault) (defScope i_CodeFault) .none kVI_CodeFault dcI_CodeFault pmI_CodeFault anI_CodeFault cdI_CodeFault ctI_CodeFault), ct_LISTS, ct_BLOCKS, ct_ACCESS_BITS, ct_MOST_EXPONENTS, ct_RULES, ct_MEMORY_EFFECTS, ct_PLAIN_EFFECTS, ct_LOOSENING, ct_UNKNOWN, f29, f30, f27, f28, f26, f32, f34, f35, f33, f1, f2, f3, f4, f5, f10, f11, f12, f13, f14, f15, f16, f17, f18, f19, f20, cC_Module, cC_Scope, cC_Level, cC_KindStack, cC_Walker, ce_Module_signatures, ce_Module_imports, ce_Module_functions, ce_Module_tables, ce_Module_memories, ce_Module_tags, ce_Module_variables, ce_Module_exports, ce_Module_table_segments, ce_Module_memory_segments, cq_MEMORY_EFFECTS_0, cq_MEMORY_EFFECTS_1, cq_MEMORY_EFFECTS_2, cq_MEMORY_EFFECTS_3, cq_PLAIN_EFFECTS_0, cq_PLAIN_EFFECTS_1, cq_PLAIN_EFFECTS_2, cq_PLAIN_EFFECTS_3, cq_PLAIN_EFFECTS_4⟩ : Cs)))
    (vt_MEMORY_EFFECTS : Rows w.params es_MEMORY_EFFECTS.toList (v_MEMORY_EFFECTS (⟨cC_HostError, cC_CodeFault, cI_CodeFault, (PySem.W.fnOf "__init__" "CodeFault.__init__" (defArgs i_CodeFault) (defBody i_CodeFault) (defScope i_CodeFault) .none kVI_CodeFault dcI_CodeFault pmI_CodeFault anI_CodeFault cdI_CodeFault ctI_CodeFault), ct_LISTS, ct_BLOCKS, ct_ACCESS_BITS, ct_MOST_EXPONENTS, ct_RULES, ct_MEMORY_EFFECTS, ct_PLAIN_EFFECTS, ct_LOOSENING, ct_UNKNOWN, f29, f30, f27, f28, f26, f32, f34, f35, f33, f1, f2, f3, f4, f5, f10, f11, f12, f13, f14, f15, f16, f17, f18, f19, f20, cC_Module, cC_Scope, cC_Level, cC_KindStack, cC_Walker, ce_Module_signatures, ce_Module_imports, ce_Module_functions, ce_Module_tables, ce_Module_memories, ce_Module_tags, ce_Module_variables, ce_Module_exports, ce_Module_table_segments, ce_Module_memory_segments, cq_MEMORY_EFFECTS_0, cq_MEMORY_EFFECTS_1, cq_MEMORY_EFFECTS_2, cq_MEMORY_EFFECTS_3, cq_PLAIN_EFFECTS_0, cq_PLAIN_EFFECTS_1, cq_PLAIN_EFFECTS_2, cq_PLAIN_EFFECTS_3, cq_PLAIN_EFFECTS_4⟩ : Cs)))
    (vt_PLAIN_EFFECTS : Rows w.params es_PLAIN_EFFECTS.toList (v_PLAIN_EFFECTS (⟨cC_HostError, cC_CodeFault, cI_CodeFault, (PySem.W.fnOf "__init__" "CodeFault.__init__" (defArgs i_CodeFault) (defBody i_CodeFault) (defScope i_CodeFault) .none kVI_CodeFault dcI_CodeFault pmI_CodeFault anI_CodeFault cdI_CodeFault ctI_CodeFault), ct_LISTS, ct_BLOCKS, ct_ACCESS_BITS, ct_MOST_EXPONENTS, ct_RULES, ct_MEMORY_EFFECTS, ct_PLAIN_EFFECTS, ct_LOOSENING, ct_UNKNOWN, f29, f30, f27, f28, f26, f32, f34, f35, f33, f1, f2, f3, f4, f5, f10, f11, f12, f13, f14, f15, f16, f17, f18, f19, f20, cC_Module, cC_Scope, cC_Level, cC_KindStack, cC_Walker, ce_Module_signatures, ce_Module_imports, ce_Module_functions, ce_Module_tables, ce_Module_memories, ce_Module_tags, ce_Module_variables, ce_Module_exports, ce_Module_table_segments, ce_Module_memory_segments, cq_MEMORY_EFFECTS_0, cq_MEMORY_EFFECTS_1, cq_MEMORY_EFFECTS_2, cq_MEMORY_EFFECTS_3, cq_PLAIN_EFFECTS_0, cq_PLAIN_EFFECTS_1, cq_PLAIN_EFFECTS_2, cq_PLAIN_EFFECTS_3, cq_PLAIN_EFFECTS_4⟩ : Cs)))
    (vt_UNKNOWN : Rows w.params es_UNKNOWN.toList (v_UNKNOWN (⟨cC_HostError, cC_CodeFault, cI_CodeFault, (PySem.W.fnOf "__init__" "CodeFault.__init__" (defArgs i_CodeFault) (defBody i_CodeFault) (defScope i_CodeFault) .none kVI_CodeFault dcI_CodeFault pmI_CodeFault anI_CodeFault cdI_CodeFault ctI_CodeFault), ct_LISTS, ct_BLOCKS, ct_ACCESS_BITS, ct_MOST_EXPONENTS, ct_RULES, ct_MEMORY_EFFECTS, ct_PLAIN_EFFECTS, ct_LOOSENING, ct_UNKNOWN, f29, f30, f27, f28, f26, f32, f34, f35, f33, f1, f2, f3, f4, f5, f10, f11, f12, f13, f14, f15, f16, f17, f18, f19, f20, cC_Module, cC_Scope, cC_Level, cC_KindStack, cC_Walker, ce_Module_signatures, ce_Module_imports, ce_Module_functions, ce_Module_tables, ce_Module_memories, ce_Module_tags, ce_Module_variables, ce_Module_exports, ce_Module_table_segments, ce_Module_memory_segments, cq_MEMORY_EFFECTS_0, cq_MEMORY_EFFECTS_1, cq_MEMORY_EFFECTS_2, cq_MEMORY_EFFECTS_3, cq_PLAIN_EFFECTS_0, cq_PLAIN_EFFECTS_1, cq_PLAIN_EFFECTS_2, cq_PLAIN_EFFECTS_3, cq_PLAIN_EFFECTS_4⟩ : Cs)))
    {od_q_MEMORY_EFFECTS_0 : Option Addr} {its_q_MEMORY_EFFECTS_0 : Array Value} {n_q_MEMORY_EFFECTS_0 : Nat} {sl_q_MEMORY_EFFECTS_0 : Array (Option Value)} (lq_MEMORY_EFFECTS_0 : K.lookup cq_MEMORY_EFFECTS_0 = some ⟨.type "tuple", od_q_MEMORY_EFFECTS_0, .seq its_q_MEMORY_EFFECTS_0 n_q_MEMORY_EFFECTS_0, sl_q_MEMORY_EFFECTS_0⟩) (ze_q_MEMORY_EFFECTS_0 : its_q_MEMORY_EFFECTS_0.size ≤ sizeLine)
    (vw_q_MEMORY_EFFECTS_0 : Vals [(.ref cq_MEMORY_EFFECTS_0_0), (.ref cq_MEMORY_EFFECTS_0_1)] its_q_MEMORY_EFFECTS_0.toList)
    {od_q_MEMORY_EFFECTS_0_0 : Option Addr} {its_q_MEMORY_EFFECTS_0_0 : Array Value} {n_q_MEMORY_EFFECTS_0_0 : Nat} {sl_q_MEMORY_EFFECTS_0_0 : Array (Option Value)} (lq_MEMORY_EFFECTS_0_0 : K.lookup cq_MEMORY_EFFECTS_0_0 = some ⟨.type "tuple", od_q_MEMORY_EFFECTS_0_0, .seq its_q_MEMORY_EFFECTS_0_0 n_q_MEMORY_EFFECTS_0_0, sl_q_MEMORY_EFFECTS_0_0⟩) (ze_q_MEMORY_EFFECTS_0_0 : its_q_MEMORY_EFFECTS_0_0.size ≤ sizeLine)
    (vw_q_MEMORY_EFFECTS_0_0 : Vals [] its_q_MEMORY_EFFECTS_0_0.toList)
    {od_q_MEMORY_EFFECTS_0_1 : Option Addr} {its_q_MEMORY_EFFECTS_0_1 : Array Value} {n_q_MEMORY_EFFECTS_0_1 : Nat} {sl_q_MEMORY_EFFECTS_0_1 : Array (Option Value)} (lq_MEMORY_EFFECTS_0_1 : K.lookup cq_MEMORY_EFFECTS_0_1 = some ⟨.type "tuple", od_q_MEMORY_EFFECTS_0_1, .seq its_q_MEMORY_EFFECTS_0_1 n_q_MEMORY_EFFECTS_0_1, sl_q_MEMORY_EFFECTS_0_1⟩) (ze_q_MEMORY_EFFECTS_0_1 : its_q_MEMORY_EFFECTS_0_1.size ≤ sizeLine)
    (vw_q_MEMORY_EFFECTS_0_1 : Vals [(.str "i32")] its_q_MEMORY_EFFECTS_0_1.toList)
    {od_q_MEMORY_EFFECTS_1 : Option Addr} {its_q_MEMORY_EFFECTS_1 : Array Value} {n_q_MEMORY_EFFECTS_1 : Nat} {sl_q_MEMORY_EFFECTS_1 : Array (Option Value)} (lq_MEMORY_EFFECTS_1 : K.lookup cq_MEMORY_EFFECTS_1 = some ⟨.type "tuple", od_q_MEMORY_EFFECTS_1, .seq its_q_MEMORY_EFFECTS_1 n_q_MEMORY_EFFECTS_1, sl_q_MEMORY_EFFECTS_1⟩) (ze_q_MEMORY_EFFECTS_1 : its_q_MEMORY_EFFECTS_1.size ≤ sizeLine)
    (vw_q_MEMORY_EFFECTS_1 : Vals [(.ref cq_MEMORY_EFFECTS_1_0), (.ref cq_MEMORY_EFFECTS_1_1)] its_q_MEMORY_EFFECTS_1.toList)
    {od_q_MEMORY_EFFECTS_1_0 : Option Addr} {its_q_MEMORY_EFFECTS_1_0 : Array Value} {n_q_MEMORY_EFFECTS_1_0 : Nat} {sl_q_MEMORY_EFFECTS_1_0 : Array (Option Value)} (lq_MEMORY_EFFECTS_1_0 : K.lookup cq_MEMORY_EFFECTS_1_0 = some ⟨.type "tuple", od_q_MEMORY_EFFECTS_1_0, .seq its_q_MEMORY_EFFECTS_1_0 n_q_MEMORY_EFFECTS_1_0, sl_q_MEMORY_EFFECTS_1_0⟩) (ze_q_MEMORY_EFFECTS_1_0 : its_q_MEMORY_EFFECTS_1_0.size ≤ sizeLine)
    (vw_q_MEMORY_EFFECTS_1_0 : Vals [(.str "i32")] its_q_MEMORY_EFFECTS_1_0.toList)
    {od_q_MEMORY_EFFECTS_1_1 : Option Addr} {its_q_MEMORY_EFFECTS_1_1 : Array Value} {n_q_MEMORY_EFFECTS_1_1 : Nat} {sl_q_MEMORY_EFFECTS_1_1 : Array (Option Value)} (lq_MEMORY_EFFECTS_1_1 : K.lookup cq_MEMORY_EFFECTS_1_1 = some ⟨.type "tuple", od_q_MEMORY_EFFECTS_1_1, .seq its_q_MEMORY_EFFECTS_1_1 n_q_MEMORY_EFFECTS_1_1, sl_q_MEMORY_EFFECTS_1_1⟩) (ze_q_MEMORY_EFFECTS_1_1 : its_q_MEMORY_EFFECTS_1_1.size ≤ sizeLine)
    (vw_q_MEMORY_EFFECTS_1_1 : Vals [(.str "i32")] its_q_MEMORY_EFFECTS_1_1.toList)
    {od_q_MEMORY_EFFECTS_2 : Option Addr} {its_q_MEMORY_EFFECTS_2 : Array Value} {n_q_MEMORY_EFFECTS_2 : Nat} {sl_q_MEMORY_EFFECTS_2 : Array (Option Value)} (lq_MEMORY_EFFECTS_2 : K.lookup cq_MEMORY_EFFECTS_2 = some ⟨.type "tuple", od_q_MEMORY_EFFECTS_2, .seq its_q_MEMORY_EFFECTS_2 n_q_MEMORY_EFFECTS_2, sl_q_MEMORY_EFFECTS_2⟩) (ze_q_MEMORY_EFFECTS_2 : its_q_MEMORY_EFFECTS_2.size ≤ sizeLine)
    (vw_q_MEMORY_EFFECTS_2 : Vals [(.ref cq_MEMORY_EFFECTS_2_0), (.ref cq_MEMORY_EFFECTS_2_1)] its_q_MEMORY_EFFECTS_2.toList)
    {od_q_MEMORY_EFFECTS_2_0 : Option Addr} {its_q_MEMORY_EFFECTS_2_0 : Array Value} {n_q_MEMORY_EFFECTS_2_0 : Nat} {sl_q_MEMORY_EFFECTS_2_0 : Array (Option Value)} (lq_MEMORY_EFFECTS_2_0 : K.lookup cq_MEMORY_EFFECTS_2_0 = some ⟨.type "tuple", od_q_MEMORY_EFFECTS_2_0, .seq its_q_MEMORY_EFFECTS_2_0 n_q_MEMORY_EFFECTS_2_0, sl_q_MEMORY_EFFECTS_2_0⟩) (ze_q_MEMORY_EFFECTS_2_0 : its_q_MEMORY_EFFECTS_2_0.size ≤ sizeLine)
    (vw_q_MEMORY_EFFECTS_2_0 : Vals [(.str "i32"), (.str "i32"), (.str "i32")] its_q_MEMORY_EFFECTS_2_0.toList)
    {od_q_MEMORY_EFFECTS_2_1 : Option Addr} {its_q_MEMORY_EFFECTS_2_1 : Array Value} {n_q_MEMORY_EFFECTS_2_1 : Nat} {sl_q_MEMORY_EFFECTS_2_1 : Array (Option Value)} (lq_MEMORY_EFFECTS_2_1 : K.lookup cq_MEMORY_EFFECTS_2_1 = some ⟨.type "tuple", od_q_MEMORY_EFFECTS_2_1, .seq its_q_MEMORY_EFFECTS_2_1 n_q_MEMORY_EFFECTS_2_1, sl_q_MEMORY_EFFECTS_2_1⟩) (ze_q_MEMORY_EFFECTS_2_1 : its_q_MEMORY_EFFECTS_2_1.size ≤ sizeLine)
    (vw_q_MEMORY_EFFECTS_2_1 : Vals [] its_q_MEMORY_EFFECTS_2_1.toList)
    {od_q_MEMORY_EFFECTS_3 : Option Addr} {its_q_MEMORY_EFFECTS_3 : Array Value} {n_q_MEMORY_EFFECTS_3 : Nat} {sl_q_MEMORY_EFFECTS_3 : Array (Option Value)} (lq_MEMORY_EFFECTS_3 : K.lookup cq_MEMORY_EFFECTS_3 = some ⟨.type "tuple", od_q_MEMORY_EFFECTS_3, .seq its_q_MEMORY_EFFECTS_3 n_q_MEMORY_EFFECTS_3, sl_q_MEMORY_EFFECTS_3⟩) (ze_q_MEMORY_EFFECTS_3 : its_q_MEMORY_EFFECTS_3.size ≤ sizeLine)
    (vw_q_MEMORY_EFFECTS_3 : Vals [(.ref cq_MEMORY_EFFECTS_3_0), (.ref cq_MEMORY_EFFECTS_3_1)] its_q_MEMORY_EFFECTS_3.toList)
    {od_q_MEMORY_EFFECTS_3_0 : Option Addr} {its_q_MEMORY_EFFECTS_3_0 : Array Value} {n_q_MEMORY_EFFECTS_3_0 : Nat} {sl_q_MEMORY_EFFECTS_3_0 : Array (Option Value)} (lq_MEMORY_EFFECTS_3_0 : K.lookup cq_MEMORY_EFFECTS_3_0 = some ⟨.type "tuple", od_q_MEMORY_EFFECTS_3_0, .seq its_q_MEMORY_EFFECTS_3_0 n_q_MEMORY_EFFECTS_3_0, sl_q_MEMORY_EFFECTS_3_0⟩) (ze_q_MEMORY_EFFECTS_3_0 : its_q_MEMORY_EFFECTS_3_0.size ≤ sizeLine)
    (vw_q_MEMORY_EFFECTS_3_0 : Vals [(.str "i32"), (.str "i32"), (.str "i32")] its_q_MEMORY_EFFECTS_3_0.toList)
    {od_q_MEMORY_EFFECTS_3_1 : Option Addr} {its_q_MEMORY_EFFECTS_3_1 : Array Value} {n_q_MEMORY_EFFECTS_3_1 : Nat} {sl_q_MEMORY_EFFECTS_3_1 : Array (Option Value)} (lq_MEMORY_EFFECTS_3_1 : K.lookup cq_MEMORY_EFFECTS_3_1 = some ⟨.type "tuple", od_q_MEMORY_EFFECTS_3_1, .seq its_q_MEMORY_EFFECTS_3_1 n_q_MEMORY_EFFECTS_3_1, sl_q_MEMORY_EFFECTS_3_1⟩) (ze_q_MEMORY_EFFECTS_3_1 : its_q_MEMORY_EFFECTS_3_1.size ≤ sizeLine)
    (vw_q_MEMORY_EFFECTS_3_1 : Vals [] its_q_MEMORY_EFFECTS_3_1.toList)
    {od_q_PLAIN_EFFECTS_0 : Option Addr} {its_q_PLAIN_EFFECTS_0 : Array Value} {n_q_PLAIN_EFFECTS_0 : Nat} {sl_q_PLAIN_EFFECTS_0 : Array (Option Value)} (lq_PLAIN_EFFECTS_0 : K.lookup cq_PLAIN_EFFECTS_0 = some ⟨.type "tuple", od_q_PLAIN_EFFECTS_0, .seq its_q_PLAIN_EFFECTS_0 n_q_PLAIN_EFFECTS_0, sl_q_PLAIN_EFFECTS_0⟩) (ze_q_PLAIN_EFFECTS_0 : its_q_PLAIN_EFFECTS_0.size ≤ sizeLine)
    (vw_q_PLAIN_EFFECTS_0 : Vals [(.ref cq_PLAIN_EFFECTS_0_0), (.ref cq_PLAIN_EFFECTS_0_1)] its_q_PLAIN_EFFECTS_0.toList)
    {od_q_PLAIN_EFFECTS_0_0 : Option Addr} {its_q_PLAIN_EFFECTS_0_0 : Array Value} {n_q_PLAIN_EFFECTS_0_0 : Nat} {sl_q_PLAIN_EFFECTS_0_0 : Array (Option Value)} (lq_PLAIN_EFFECTS_0_0 : K.lookup cq_PLAIN_EFFECTS_0_0 = some ⟨.type "tuple", od_q_PLAIN_EFFECTS_0_0, .seq its_q_PLAIN_EFFECTS_0_0 n_q_PLAIN_EFFECTS_0_0, sl_q_PLAIN_EFFECTS_0_0⟩) (ze_q_PLAIN_EFFECTS_0_0 : its_q_PLAIN_EFFECTS_0_0.size ≤ sizeLine)
    (vw_q_PLAIN_EFFECTS_0_0 : Vals [] its_q_PLAIN_EFFECTS_0_0.toList)
    {od_q_PLAIN_EFFECTS_0_1 : Option Addr} {its_q_PLAIN_EFFECTS_0_1 : Array Value} {n_q_PLAIN_EFFECTS_0_1 : Nat} {sl_q_PLAIN_EFFECTS_0_1 : Array (Option Value)} (lq_PLAIN_EFFECTS_0_1 : K.lookup cq_PLAIN_EFFECTS_0_1 = some ⟨.type "tuple", od_q_PLAIN_EFFECTS_0_1, .seq its_q_PLAIN_EFFECTS_0_1 n_q_PLAIN_EFFECTS_0_1, sl_q_PLAIN_EFFECTS_0_1⟩) (ze_q_PLAIN_EFFECTS_0_1 : its_q_PLAIN_EFFECTS_0_1.size ≤ sizeLine)
    (vw_q_PLAIN_EFFECTS_0_1 : Vals [] its_q_PLAIN_EFFECTS_0_1.toList)
    {od_q_PLAIN_EFFECTS_1 : Option Addr} {its_q_PLAIN_EFFECTS_1 : Array Value} {n_q_PLAIN_EFFECTS_1 : Nat} {sl_q_PLAIN_EFFECTS_1 : Array (Option Value)} (lq_PLAIN_EFFECTS_1 : K.lookup cq_PLAIN_EFFECTS_1 = some ⟨.type "tuple", od_q_PLAIN_EFFECTS_1, .seq its_q_PLAIN_EFFECTS_1 n_q_PLAIN_EFFECTS_1, sl_q_PLAIN_EFFECTS_1⟩) (ze_q_PLAIN_EFFECTS_1 : its_q_PLAIN_EFFECTS_1.size ≤ sizeLine)
    (vw_q_PLAIN_EFFECTS_1 : Vals [(.ref cq_PLAIN_EFFECTS_1_0), (.ref cq_PLAIN_EFFECTS_1_1)] its_q_PLAIN_EFFECTS_1.toList)
    {od_q_PLAIN_EFFECTS_1_0 : Option Addr} {its_q_PLAIN_EFFECTS_1_0 : Array Value} {n_q_PLAIN_EFFECTS_1_0 : Nat} {sl_q_PLAIN_EFFECTS_1_0 : Array (Option Value)} (lq_PLAIN_EFFECTS_1_0 : K.lookup cq_PLAIN_EFFECTS_1_0 = some ⟨.type "tuple", od_q_PLAIN_EFFECTS_1_0, .seq its_q_PLAIN_EFFECTS_1_0 n_q_PLAIN_EFFECTS_1_0, sl_q_PLAIN_EFFECTS_1_0⟩) (ze_q_PLAIN_EFFECTS_1_0 : its_q_PLAIN_EFFECTS_1_0.size ≤ sizeLine)
    (vw_q_PLAIN_EFFECTS_1_0 : Vals [] its_q_PLAIN_EFFECTS_1_0.toList)
    {od_q_PLAIN_EFFECTS_1_1 : Option Addr} {its_q_PLAIN_EFFECTS_1_1 : Array Value} {n_q_PLAIN_EFFECTS_1_1 : Nat} {sl_q_PLAIN_EFFECTS_1_1 : Array (Option Value)} (lq_PLAIN_EFFECTS_1_1 : K.lookup cq_PLAIN_EFFECTS_1_1 = some ⟨.type "tuple", od_q_PLAIN_EFFECTS_1_1, .seq its_q_PLAIN_EFFECTS_1_1 n_q_PLAIN_EFFECTS_1_1, sl_q_PLAIN_EFFECTS_1_1⟩) (ze_q_PLAIN_EFFECTS_1_1 : its_q_PLAIN_EFFECTS_1_1.size ≤ sizeLine)
    (vw_q_PLAIN_EFFECTS_1_1 : Vals [] its_q_PLAIN_EFFECTS_1_1.toList)
    {od_q_PLAIN_EFFECTS_2 : Option Addr} {its_q_PLAIN_EFFECTS_2 : Array Value} {n_q_PLAIN_EFFECTS_2 : Nat} {sl_q_PLAIN_EFFECTS_2 : Array (Option Value)} (lq_PLAIN_EFFECTS_2 : K.lookup cq_PLAIN_EFFECTS_2 = some ⟨.type "tuple", od_q_PLAIN_EFFECTS_2, .seq its_q_PLAIN_EFFECTS_2 n_q_PLAIN_EFFECTS_2, sl_q_PLAIN_EFFECTS_2⟩) (ze_q_PLAIN_EFFECTS_2 : its_q_PLAIN_EFFECTS_2.size ≤ sizeLine)
    (vw_q_PLAIN_EFFECTS_2 : Vals [(.ref cq_PLAIN_EFFECTS_2_0), (.ref cq_PLAIN_EFFECTS_2_1)] its_q_PLAIN_EFFECTS_2.toList)
    {od_q_PLAIN_EFFECTS_2_0 : Option Addr} {its_q_PLAIN_EFFECTS_2_0 : Array Value} {n_q_PLAIN_EFFECTS_2_0 : Nat} {sl_q_PLAIN_EFFECTS_2_0 : Array (Option Value)} (lq_PLAIN_EFFECTS_2_0 : K.lookup cq_PLAIN_EFFECTS_2_0 = some ⟨.type "tuple", od_q_PLAIN_EFFECTS_2_0, .seq its_q_PLAIN_EFFECTS_2_0 n_q_PLAIN_EFFECTS_2_0, sl_q_PLAIN_EFFECTS_2_0⟩) (ze_q_PLAIN_EFFECTS_2_0 : its_q_PLAIN_EFFECTS_2_0.size ≤ sizeLine)
    (vw_q_PLAIN_EFFECTS_2_0 : Vals [(.non)] its_q_PLAIN_EFFECTS_2_0.toList)
    {od_q_PLAIN_EFFECTS_2_1 : Option Addr} {its_q_PLAIN_EFFECTS_2_1 : Array Value} {n_q_PLAIN_EFFECTS_2_1 : Nat} {sl_q_PLAIN_EFFECTS_2_1 : Array (Option Value)} (lq_PLAIN_EFFECTS_2_1 : K.lookup cq_PLAIN_EFFECTS_2_1 = some ⟨.type "tuple", od_q_PLAIN_EFFECTS_2_1, .seq its_q_PLAIN_EFFECTS_2_1 n_q_PLAIN_EFFECTS_2_1, sl_q_PLAIN_EFFECTS_2_1⟩) (ze_q_PLAIN_EFFECTS_2_1 : its_q_PLAIN_EFFECTS_2_1.size ≤ sizeLine)
    (vw_q_PLAIN_EFFECTS_2_1 : Vals [] its_q_PLAIN_EFFECTS_2_1.toList)
    {od_q_PLAIN_EFFECTS_3 : Option Addr} {its_q_PLAIN_EFFECTS_3 : Array Value} {n_q_PLAIN_EFFECTS_3 : Nat} {sl_q_PLAIN_EFFECTS_3 : Array (Option Value)} (lq_PLAIN_EFFECTS_3 : K.lookup cq_PLAIN_EFFECTS_3 = some ⟨.type "tuple", od_q_PLAIN_EFFECTS_3, .seq its_q_PLAIN_EFFECTS_3 n_q_PLAIN_EFFECTS_3, sl_q_PLAIN_EFFECTS_3⟩) (ze_q_PLAIN_EFFECTS_3 : its_q_PLAIN_EFFECTS_3.size ≤ sizeLine)
    (vw_q_PLAIN_EFFECTS_3 : Vals [(.ref cq_PLAIN_EFFECTS_3_0), (.ref cq_PLAIN_EFFECTS_3_1)] its_q_PLAIN_EFFECTS_3.toList)
    {od_q_PLAIN_EFFECTS_3_0 : Option Addr} {its_q_PLAIN_EFFECTS_3_0 : Array Value} {n_q_PLAIN_EFFECTS_3_0 : Nat} {sl_q_PLAIN_EFFECTS_3_0 : Array (Option Value)} (lq_PLAIN_EFFECTS_3_0 : K.lookup cq_PLAIN_EFFECTS_3_0 = some ⟨.type "tuple", od_q_PLAIN_EFFECTS_3_0, .seq its_q_PLAIN_EFFECTS_3_0 n_q_PLAIN_EFFECTS_3_0, sl_q_PLAIN_EFFECTS_3_0⟩) (ze_q_PLAIN_EFFECTS_3_0 : its_q_PLAIN_EFFECTS_3_0.size ≤ sizeLine)
    (vw_q_PLAIN_EFFECTS_3_0 : Vals [] its_q_PLAIN_EFFECTS_3_0.toList)
    {od_q_PLAIN_EFFECTS_3_1 : Option Addr} {its_q_PLAIN_EFFECTS_3_1 : Array Value} {n_q_PLAIN_EFFECTS_3_1 : Nat} {sl_q_PLAIN_EFFECTS_3_1 : Array (Option Value)} (lq_PLAIN_EFFECTS_3_1 : K.lookup cq_PLAIN_EFFECTS_3_1 = some ⟨.type "tuple", od_q_PLAIN_EFFECTS_3_1, .seq its_q_PLAIN_EFFECTS_3_1 n_q_PLAIN_EFFECTS_3_1, sl_q_PLAIN_EFFECTS_3_1⟩) (ze_q_PLAIN_EFFECTS_3_1 : its_q_PLAIN_EFFECTS_3_1.size ≤ sizeLine)
    (vw_q_PLAIN_EFFECTS_3_1 : Vals [(.str "i32")] its_q_PLAIN_EFFECTS_3_1.toList)
    {od_q_PLAIN_EFFECTS_4 : Option Addr} {its_q_PLAIN_EFFECTS_4 : Array Value} {n_q_PLAIN_EFFECTS_4 : Nat} {sl_q_PLAIN_EFFECTS_4 : Array (Option Value)} (lq_PLAIN_EFFECTS_4 : K.lookup cq_PLAIN_EFFECTS_4 = some ⟨.type "tuple", od_q_PLAIN_EFFECTS_4, .seq its_q_PLAIN_EFFECTS_4 n_q_PLAIN_EFFECTS_4, sl_q_PLAIN_EFFECTS_4⟩) (ze_q_PLAIN_EFFECTS_4 : its_q_PLAIN_EFFECTS_4.size ≤ sizeLine)
    (vw_q_PLAIN_EFFECTS_4 : Vals [(.ref cq_PLAIN_EFFECTS_4_0), (.ref cq_PLAIN_EFFECTS_4_1)] its_q_PLAIN_EFFECTS_4.toList)
    {od_q_PLAIN_EFFECTS_4_0 : Option Addr} {its_q_PLAIN_EFFECTS_4_0 : Array Value} {n_q_PLAIN_EFFECTS_4_0 : Nat} {sl_q_PLAIN_EFFECTS_4_0 : Array (Option Value)} (lq_PLAIN_EFFECTS_4_0 : K.lookup cq_PLAIN_EFFECTS_4_0 = some ⟨.type "tuple", od_q_PLAIN_EFFECTS_4_0, .seq its_q_PLAIN_EFFECTS_4_0 n_q_PLAIN_EFFECTS_4_0, sl_q_PLAIN_EFFECTS_4_0⟩) (ze_q_PLAIN_EFFECTS_4_0 : its_q_PLAIN_EFFECTS_4_0.size ≤ sizeLine)
    (vw_q_PLAIN_EFFECTS_4_0 : Vals [] its_q_PLAIN_EFFECTS_4_0.toList)
    {od_q_PLAIN_EFFECTS_4_1 : Option Addr} {its_q_PLAIN_EFFECTS_4_1 : Array Value} {n_q_PLAIN_EFFECTS_4_1 : Nat} {sl_q_PLAIN_EFFECTS_4_1 : Array (Option Value)} (lq_PLAIN_EFFECTS_4_1 : K.lookup cq_PLAIN_EFFECTS_4_1 = some ⟨.type "tuple", od_q_PLAIN_EFFECTS_4_1, .seq its_q_PLAIN_EFFECTS_4_1 n_q_PLAIN_EFFECTS_4_1, sl_q_PLAIN_EFFECTS_4_1⟩) (ze_q_PLAIN_EFFECTS_4_1 : its_q_PLAIN_EFFECTS_4_1.size ≤ sizeLine)
    (vw_q_PLAIN_EFFECTS_4_1 : Vals [(.str "i64")] its_q_PLAIN_EFFECTS_4_1.toList)
    {ki_MOST_PAGES : Tok} (ai_MOST_PAGES : PySem.W.nsIn K mainGlobals "MOST_PAGES" = some (some (.int 65536 ki_MOST_PAGES)))
    (pg_Module : PySem.W.plainGet K cC_Module Str.empty = true)
    (hd_Module : PySem.W.hasDictIn K cC_Module = true)
    (po_Module : PySem.W.plainOver K cC_Module = true)
    (sa_Module : PySem.W.findIn K (.ref cC_Module) "__setattr__" = some (some (.builtin "object.__setattr__")))
    (mk_Module : PySem.W.makesIn K cC_Module = true)
    (kc_Module : PySem.W.keepIn K (.ref cC_Module) = true)
    (na_Module_signatures : PySem.W.findIn K (.ref cC_Module) "signatures" = some none)
    (na_Module_imports : PySem.W.findIn K (.ref cC_Module) "imports" = some none)
    (na_Module_functions : PySem.W.findIn K (.ref cC_Module) "functions" = some none)
    (na_Module_tables : PySem.W.findIn K (.ref cC_Module) "tables" = some none)
    (na_Module_memories : PySem.W.findIn K (.ref cC_Module) "memories" = some none)
    (na_Module_tags : PySem.W.findIn K (.ref cC_Module) "tags" = some none)
    (na_Module_variables : PySem.W.findIn K (.ref cC_Module) "variables" = some none)
    (na_Module_exports : PySem.W.findIn K (.ref cC_Module) "exports" = some none)
    (na_Module_start : PySem.W.findIn K (.ref cC_Module) "start" = some none)
    (na_Module_table_segments : PySem.W.findIn K (.ref cC_Module) "table_segments" = some none)
    (na_Module_memory_segments : PySem.W.findIn K (.ref cC_Module) "memory_segments" = some none)
    {kD_Module : Addr}
    (am47 : PySem.W.findIn K (.ref cC_Module) "__init__" = some (some (.ref f47))) (im47 : PySem.W.isFn K (.ref f47) = true)
    (l47 : K.lookup f47 = some ⟨oc47, od47, .func (PySem.W.fnOf "__init__" "Module.__init__" (defArgs s_Module___init__) (defBody s_Module___init__) (defScope s_Module___init__) .none (.ref kD_Module) dc47 pm47 an47 cd47 ct47), sl47⟩) (c47 : PySem.W.codeIn K cd47 "Module.__init__" = true) (k47 : PySem.W.keepIn K (.ref f47) = true)
    (kq_Module_signatures : PySem.W.nsIn K kD_Module "signatures" = some (some (.ref ce_Module_signatures)))
    {od_Module_signatures : Option Addr} {its_Module_signatures : Array Value} {n_Module_signatures : Nat} {sl_Module_signatures : Array (Option Value)} (le_Module_signatures : K.lookup ce_Module_signatures = some ⟨.type "tuple", od_Module_signatures, .seq its_Module_signatures n_Module_signatures, sl_Module_signatures⟩) (ze_Module_signatures : its_Module_signatures.size ≤ sizeLine) (ve_Module_signatures : Vals [] its_Module_signatures.toList)
    (kq_Module_imports : PySem.W.nsIn K kD_Module "imports" = some (some (.ref ce_Module_imports)))
    {od_Module_imports : Option Addr} {its_Module_imports : Array Value} {n_Module_imports : Nat} {sl_Module_imports : Array (Option Value)} (le_Module_imports : K.lookup ce_Module_imports = some ⟨.type "tuple", od_Module_imports, .seq its_Module_imports n_Module_imports, sl_Module_imports⟩) (ze_Module_imports : its_Module_imports.size ≤ sizeLine) (ve_Module_imports : Vals [] its_Module_imports.toList)
    (kq_Module_functions : PySem.W.nsIn K kD_Module "functions" = some (some (.ref ce_Module_functions)))
    {od_Module_functions : Option Addr} {its_Module_functions : Array Value} {n_Module_functions : Nat} {sl_Module_functions : Array (Option Value)} (le_Module_functions : K.lookup ce_Module_functions = some ⟨.type "tuple", od_Module_functions, .seq its_Module_functions n_Module_functions, sl_Module_functions⟩) (ze_Module_functions : its_Module_functions.size ≤ sizeLine) (ve_Module_functions : Vals [] its_Module_functions.toList)
    (kq_Module_tables : PySem.W.nsIn K kD_Module "tables" = some (some (.ref ce_Module_tables)))
    {od_Module_tables : Option Addr} {its_Module_tables : Array Value} {n_Module_tables : Nat} {sl_Module_tables : Array (Option Value)} (le_Module_tables : K.lookup ce_Module_tables = some ⟨.type "tuple", od_Module_tables, .seq its_Module_tables n_Module_tables, sl_Module_tables⟩) (ze_Module_tables : its_Module_tables.size ≤ sizeLine) (ve_Module_tables : Vals [] its_Module_tables.toList)
    (kq_Module_memories : PySem.W.nsIn K kD_Module "memories" = some (some (.ref ce_Module_memories)))
    {od_Module_memories : Option Addr} {its_Module_memories : Array Value} {n_Module_memories : Nat} {sl_Module_memories : Array (Option Value)} (le_Module_memories : K.lookup ce_Module_memories = some ⟨.type "tuple", od_Module_memories, .seq its_Module_memories n_Module_memories, sl_Module_memories⟩) (ze_Module_memories : its_Module_memories.size ≤ sizeLine) (ve_Module_memories : Vals [] its_Module_memories.toList)
    (kq_Module_tags : PySem.W.nsIn K kD_Module "tags" = some (some (.ref ce_Module_tags)))
    {od_Module_tags : Option Addr} {its_Module_tags : Array Value} {n_Module_tags : Nat} {sl_Module_tags : Array (Option Value)} (le_Module_tags : K.lookup ce_Module_tags = some ⟨.type "tuple", od_Module_tags, .seq its_Module_tags n_Module_tags, sl_Module_tags⟩) (ze_Module_tags : its_Module_tags.size ≤ sizeLine) (ve_Module_tags : Vals [] its_Module_tags.toList)
    (kq_Module_variables : PySem.W.nsIn K kD_Module "variables" = some (some (.ref ce_Module_variables)))
    {od_Module_variables : Option Addr} {its_Module_variables : Array Value} {n_Module_variables : Nat} {sl_Module_variables : Array (Option Value)} (le_Module_variables : K.lookup ce_Module_variables = some ⟨.type "tuple", od_Module_variables, .seq its_Module_variables n_Module_variables, sl_Module_variables⟩) (ze_Module_variables : its_Module_variables.size ≤ sizeLine) (ve_Module_variables : Vals [] its_Module_variables.toList)
    (kq_Module_exports : PySem.W.nsIn K kD_Module "exports" = some (some (.ref ce_Module_exports)))
    {od_Module_exports : Option Addr} {its_Module_exports : Array Value} {n_Module_exports : Nat} {sl_Module_exports : Array (Option Value)} (le_Module_exports : K.lookup ce_Module_exports = some ⟨.type "tuple", od_Module_exports, .seq its_Module_exports n_Module_exports, sl_Module_exports⟩) (ze_Module_exports : its_Module_exports.size ≤ sizeLine) (ve_Module_exports : Vals [] its_Module_exports.toList)
    (kq_Module_start : PySem.W.nsIn K kD_Module "start" = some (some .none))
    (kq_Module_table_segments : PySem.W.nsIn K kD_Module "table_segments" = some (some (.ref ce_Module_table_segments)))
    {od_Module_table_segments : Option Addr} {its_Module_table_segments : Array Value} {n_Module_table_segments : Nat} {sl_Module_table_segments : Array (Option Value)} (le_Module_table_segments : K.lookup ce_Module_table_segments = some ⟨.type "tuple", od_Module_table_segments, .seq its_Module_table_segments n_Module_table_segments, sl_Module_table_segments⟩) (ze_Module_table_segments : its_Module_table_segments.size ≤ sizeLine) (ve_Module_table_segments : Vals [] its_Module_table_segments.toList)
    (kq_Module_memory_segments : PySem.W.nsIn K kD_Module "memory_segments" = some (some (.ref ce_Module_memory_segments)))
    {od_Module_memory_segments : Option Addr} {its_Module_memory_segments : Array Value} {n_Module_memory_segments : Nat} {sl_Module_memory_segments : Array (Option Value)} (le_Module_memory_segments : K.lookup ce_Module_memory_segments = some ⟨.type "tuple", od_Module_memory_segments, .seq its_Module_memory_segments n_Module_memory_segments, sl_Module_memory_segments⟩) (ze_Module_memory_segments : its_Module_memory_segments.size ≤ sizeLine) (ve_Module_memory_segments : Vals [] its_Module_memory_segments.toList)
    (pg_Scope : PySem.W.plainGet K cC_Scope Str.empty = true)
    (hd_Scope : PySem.W.hasDictIn K cC_Scope = true)
    (po_Scope : PySem.W.plainOver K cC_Scope = true)
    (sa_Scope : PySem.W.findIn K (.ref cC_Scope) "__setattr__" = some (some (.builtin "object.__setattr__")))
    (mk_Scope : PySem.W.makesIn K cC_Scope = true)
    (kc_Scope : PySem.W.keepIn K (.ref cC_Scope) = true)
    (na_Scope_slots : PySem.W.findIn K (.ref cC_Scope) "slots" = some none)
    (na_Scope_results : PySem.W.findIn K (.ref cC_Scope) "results" = some none)
    (na_Scope_labels : PySem.W.findIn K (.ref cC_Scope) "labels" = some none)
    (na_Scope_signatures : PySem.W.findIn K (.ref cC_Scope) "signatures" = some none)
    (na_Scope_function_indexes : PySem.W.findIn K (.ref cC_Scope) "function_indexes" = some none)
    (na_Scope_tag_indexes : PySem.W.findIn K (.ref cC_Scope) "tag_indexes" = some none)
    (na_Scope_heads : PySem.W.findIn K (.ref cC_Scope) "heads" = some none)
    (na_Scope_table_count : PySem.W.findIn K (.ref cC_Scope) "table_count" = some none)
    (na_Scope_memory_count : PySem.W.findIn K (.ref cC_Scope) "memory_count" = some none)
    (am48 : PySem.W.findIn K (.ref cC_Scope) "__init__" = some (some (.ref f48))) (im48 : PySem.W.isFn K (.ref f48) = true)
    (l48 : K.lookup f48 = some ⟨oc48, od48, .func (PySem.W.fnOf "__init__" "Scope.__init__" (defArgs s_Scope___init__) (defBody s_Scope___init__) (defScope s_Scope___init__) .none kV48 dc48 pm48 an48 cd48 ct48), sl48⟩) (c48 : PySem.W.codeIn K cd48 "Scope.__init__" = true) (k48 : PySem.W.keepIn K (.ref f48) = true)
    (am49 : PySem.W.findIn K (.ref cC_Scope) "slot" = some (some (.ref f49))) (im49 : PySem.W.isFn K (.ref f49) = true)
    (l49 : K.lookup f49 = some ⟨oc49, od49, .func (PySem.W.fnOf "slot" "Scope.slot" (defArgs s_Scope_slot) (defBody s_Scope_slot) (defScope s_Scope_slot) .none kV49 dc49 pm49 an49 cd49 ct49), sl49⟩) (c49 : PySem.W.codeIn K cd49 "Scope.slot" = true) (k49 : PySem.W.keepIn K (.ref f49) = true)
    (am50 : PySem.W.findIn K (.ref cC_Scope) "variable" = some (some (.ref f50))) (im50 : PySem.W.isFn K (.ref f50) = true)
    (l50 : K.lookup f50 = some ⟨oc50, od50, .func (PySem.W.fnOf "variable" "Scope.variable" (defArgs s_Scope_variable) (defBody s_Scope_variable) (defScope s_Scope_variable) .none kV50 dc50 pm50 an50 cd50 ct50), sl50⟩) (c50 : PySem.W.codeIn K cd50 "Scope.variable" = true) (k50 : PySem.W.keepIn K (.ref f50) = true)
    (am51 : PySem.W.findIn K (.ref cC_Scope) "signature" = some (some (.ref f51))) (im51 : PySem.W.isFn K (.ref f51) = true)
    (l51 : K.lookup f51 = some ⟨oc51, od51, .func (PySem.W.fnOf "signature" "Scope.signature" (defArgs s_Scope_signature) (defBody s_Scope_signature) (defScope s_Scope_signature) .none kV51 dc51 pm51 an51 cd51 ct51), sl51⟩) (c51 : PySem.W.codeIn K cd51 "Scope.signature" = true) (k51 : PySem.W.keepIn K (.ref f51) = true)
    (am52 : PySem.W.findIn K (.ref cC_Scope) "function" = some (some (.ref f52))) (im52 : PySem.W.isFn K (.ref f52) = true)
    (l52 : K.lookup f52 = some ⟨oc52, od52, .func (PySem.W.fnOf "function" "Scope.function" (defArgs s_Scope_function) (defBody s_Scope_function) (defScope s_Scope_function) .none kV52 dc52 pm52 an52 cd52 ct52), sl52⟩) (c52 : PySem.W.codeIn K cd52 "Scope.function" = true) (k52 : PySem.W.keepIn K (.ref f52) = true)
    (am53 : PySem.W.findIn K (.ref cC_Scope) "tag" = some (some (.ref f53))) (im53 : PySem.W.isFn K (.ref f53) = true)
    (l53 : K.lookup f53 = some ⟨oc53, od53, .func (PySem.W.fnOf "tag" "Scope.tag" (defArgs s_Scope_tag) (defBody s_Scope_tag) (defScope s_Scope_tag) .none kV53 dc53 pm53 an53 cd53 ct53), sl53⟩) (c53 : PySem.W.codeIn K cd53 "Scope.tag" = true) (k53 : PySem.W.keepIn K (.ref f53) = true)
    (am54 : PySem.W.findIn K (.ref cC_Scope) "label" = some (some (.ref f54))) (im54 : PySem.W.isFn K (.ref f54) = true)
    (l54 : K.lookup f54 = some ⟨oc54, od54, .func (PySem.W.fnOf "label" "Scope.label" (defArgs s_Scope_label) (defBody s_Scope_label) (defScope s_Scope_label) .none kV54 dc54 pm54 an54 cd54 ct54), sl54⟩) (c54 : PySem.W.codeIn K cd54 "Scope.label" = true) (k54 : PySem.W.keepIn K (.ref f54) = true)
    (am55 : PySem.W.findIn K (.ref cC_Scope) "shape" = some (some (.ref f55))) (im55 : PySem.W.isFn K (.ref f55) = true)
    (l55 : K.lookup f55 = some ⟨oc55, od55, .func (PySem.W.fnOf "shape" "Scope.shape" (defArgs s_Scope_shape) (defBody s_Scope_shape) (defScope s_Scope_shape) .none kV55 dc55 pm55 an55 cd55 ct55), sl55⟩) (c55 : PySem.W.codeIn K cd55 "Scope.shape" = true) (k55 : PySem.W.keepIn K (.ref f55) = true)
    (am56 : PySem.W.findIn K (.ref cC_Scope) "need_table" = some (some (.ref f56))) (im56 : PySem.W.isFn K (.ref f56) = true)
    (l56 : K.lookup f56 = some ⟨oc56, od56, .func (PySem.W.fnOf "need_table" "Scope.need_table" (defArgs s_Scope_need_table) (defBody s_Scope_need_table) (defScope s_Scope_need_table) .none kV56 dc56 pm56 an56 cd56 ct56), sl56⟩) (c56 : PySem.W.codeIn K cd56 "Scope.need_table" = true) (k56 : PySem.W.keepIn K (.ref f56) = true)
    (am57 : PySem.W.findIn K (.ref cC_Scope) "need_memory" = some (some (.ref f57))) (im57 : PySem.W.isFn K (.ref f57) = true)
    (l57 : K.lookup f57 = some ⟨oc57, od57, .func (PySem.W.fnOf "need_memory" "Scope.need_memory" (defArgs s_Scope_need_memory) (defBody s_Scope_need_memory) (defScope s_Scope_need_memory) .none kV57 dc57 pm57 an57 cd57 ct57), sl57⟩) (c57 : PySem.W.codeIn K cd57 "Scope.need_memory" = true) (k57 : PySem.W.keepIn K (.ref f57) = true)
    (pg_Level : PySem.W.plainGet K cC_Level Str.empty = true)
    (hd_Level : PySem.W.hasDictIn K cC_Level = true)
    (po_Level : PySem.W.plainOver K cC_Level = true)
    (sa_Level : PySem.W.findIn K (.ref cC_Level) "__setattr__" = some (some (.builtin "object.__setattr__")))
    (mk_Level : PySem.W.makesIn K cC_Level = true)
    (kc_Level : PySem.W.keepIn K (.ref cC_Level) = true)
    (na_Level_floor : PySem.W.findIn K (.ref cC_Level) "floor" = some none)
    (na_Level_buried : PySem.W.findIn K (.ref cC_Level) "buried" = some none)
    (na_Level_loose : PySem.W.findIn K (.ref cC_Level) "loose" = some none)
    (am58 : PySem.W.findIn K (.ref cC_Level) "__init__" = some (some (.ref f58))) (im58 : PySem.W.isFn K (.ref f58) = true)
    (l58 : K.lookup f58 = some ⟨oc58, od58, .func (PySem.W.fnOf "__init__" "Level.__init__" (defArgs s_Level___init__) (defBody s_Level___init__) (defScope s_Level___init__) .none kV58 dc58 pm58 an58 cd58 ct58), sl58⟩) (c58 : PySem.W.codeIn K cd58 "Level.__init__" = true) (k58 : PySem.W.keepIn K (.ref f58) = true)
    (pg_KindStack : PySem.W.plainGet K cC_KindStack Str.empty = true)
    (hd_KindStack : PySem.W.hasDictIn K cC_KindStack = true)
    (po_KindStack : PySem.W.plainOver K cC_KindStack = true)
    (sa_KindStack : PySem.W.findIn K (.ref cC_KindStack) "__setattr__" = some (some (.builtin "object.__setattr__")))
    (mk_KindStack : PySem.W.makesIn K cC_KindStack = true)
    (kc_KindStack : PySem.W.keepIn K (.ref cC_KindStack) = true)
    (na_KindStack_held : PySem.W.findIn K (.ref cC_KindStack) "held" = some none)
    (na_KindStack_levels : PySem.W.findIn K (.ref cC_KindStack) "levels" = some none)
    (am59 : PySem.W.findIn K (.ref cC_KindStack) "__init__" = some (some (.ref f59))) (im59 : PySem.W.isFn K (.ref f59) = true)
    (l59 : K.lookup f59 = some ⟨oc59, od59, .func (PySem.W.fnOf "__init__" "KindStack.__init__" (defArgs s_KindStack___init__) (defBody s_KindStack___init__) (defScope s_KindStack___init__) .none kV59 dc59 pm59 an59 cd59 ct59), sl59⟩) (c59 : PySem.W.codeIn K cd59 "KindStack.__init__" = true) (k59 : PySem.W.keepIn K (.ref f59) = true)
    (am60 : PySem.W.findIn K (.ref cC_KindStack) "is_dead" = some (some (.ref f60))) (im60 : PySem.W.isFn K (.ref f60) = true)
    (l60 : K.lookup f60 = some ⟨oc60, od60, .func (PySem.W.fnOf "is_dead" "KindStack.is_dead" (defArgs s_KindStack_is_dead) (defBody s_KindStack_is_dead) (defScope s_KindStack_is_dead) .none kV60 dc60 pm60 an60 cd60 ct60), sl60⟩) (c60 : PySem.W.codeIn K cd60 "KindStack.is_dead" = true) (k60 : PySem.W.keepIn K (.ref f60) = true)
    (am61 : PySem.W.findIn K (.ref cC_KindStack) "shown" = some (some (.ref f61))) (im61 : PySem.W.isFn K (.ref f61) = true)
    (l61 : K.lookup f61 = some ⟨oc61, od61, .func (PySem.W.fnOf "shown" "KindStack.shown" (defArgs s_KindStack_shown) (defBody s_KindStack_shown) (defScope s_KindStack_shown) .none kV61 dc61 pm61 an61 cd61 ct61), sl61⟩) (c61 : PySem.W.codeIn K cd61 "KindStack.shown" = true) (k61 : PySem.W.keepIn K (.ref f61) = true)
    (am62 : PySem.W.findIn K (.ref cC_KindStack) "put" = some (some (.ref f62))) (im62 : PySem.W.isFn K (.ref f62) = true)
    (l62 : K.lookup f62 = some ⟨oc62, od62, .func (PySem.W.fnOf "put" "KindStack.put" (defArgs s_KindStack_put) (defBody s_KindStack_put) (defScope s_KindStack_put) .none kV62 dc62 pm62 an62 cd62 ct62), sl62⟩) (c62 : PySem.W.codeIn K cd62 "KindStack.put" = true) (k62 : PySem.W.keepIn K (.ref f62) = true)
    (am63 : PySem.W.findIn K (.ref cC_KindStack) "need" = some (some (.ref f63))) (im63 : PySem.W.isFn K (.ref f63) = true)
    (l63 : K.lookup f63 = some ⟨oc63, od63, .func (PySem.W.fnOf "need" "KindStack.need" (defArgs s_KindStack_need) (defBody s_KindStack_need) (defScope s_KindStack_need) .none kV63 dc63 pm63 an63 cd63 ct63), sl63⟩) (c63 : PySem.W.codeIn K cd63 "KindStack.need" = true) (k63 : PySem.W.keepIn K (.ref f63) = true)
    (am64 : PySem.W.findIn K (.ref cC_KindStack) "take" = some (some (.ref f64))) (im64 : PySem.W.isFn K (.ref f64) = true)
    (l64 : K.lookup f64 = some ⟨oc64, od64, .func (PySem.W.fnOf "take" "KindStack.take" (defArgs s_KindStack_take) (defBody s_KindStack_take) (defScope s_KindStack_take) .none kV64 dc64 pm64 an64 cd64 ct64), sl64⟩) (c64 : PySem.W.codeIn K cd64 "KindStack.take" = true) (k64 : PySem.W.keepIn K (.ref f64) = true)
    (am65 : PySem.W.findIn K (.ref cC_KindStack) "take_any" = some (some (.ref f65))) (im65 : PySem.W.isFn K (.ref f65) = true)
    (l65 : K.lookup f65 = some ⟨oc65, od65, .func (PySem.W.fnOf "take_any" "KindStack.take_any" (defArgs s_KindStack_take_any) (defBody s_KindStack_take_any) (defScope s_KindStack_take_any) .none kV65 dc65 pm65 an65 cd65 ct65), sl65⟩) (c65 : PySem.W.codeIn K cd65 "KindStack.take_any" = true) (k65 : PySem.W.keepIn K (.ref f65) = true)
    (am66 : PySem.W.findIn K (.ref cC_KindStack) "loosen" = some (some (.ref f66))) (im66 : PySem.W.isFn K (.ref f66) = true)
    (l66 : K.lookup f66 = some ⟨oc66, od66, .func (PySem.W.fnOf "loosen" "KindStack.loosen" (defArgs s_KindStack_loosen) (defBody s_KindStack_loosen) (defScope s_KindStack_loosen) .none kV66 dc66 pm66 an66 cd66 ct66), sl66⟩) (c66 : PySem.W.codeIn K cd66 "KindStack.loosen" = true) (k66 : PySem.W.keepIn K (.ref f66) = true)
    (am67 : PySem.W.findIn K (.ref cC_KindStack) "enter" = some (some (.ref f67))) (im67 : PySem.W.isFn K (.ref f67) = true)
    (l67 : K.lookup f67 = some ⟨oc67, od67, .func (PySem.W.fnOf "enter" "KindStack.enter" (defArgs s_KindStack_enter) (defBody s_KindStack_enter) (defScope s_KindStack_enter) .none kV67 dc67 pm67 an67 cd67 ct67), sl67⟩) (c67 : PySem.W.codeIn K cd67 "KindStack.enter" = true) (k67 : PySem.W.keepIn K (.ref f67) = true)
    (am68 : PySem.W.findIn K (.ref cC_KindStack) "leave" = some (some (.ref f68))) (im68 : PySem.W.isFn K (.ref f68) = true)
    (l68 : K.lookup f68 = some ⟨oc68, od68, .func (PySem.W.fnOf "leave" "KindStack.leave" (defArgs s_KindStack_leave) (defBody s_KindStack_leave) (defScope s_KindStack_leave) .none kV68 dc68 pm68 an68 cd68 ct68), sl68⟩) (c68 : PySem.W.codeIn K cd68 "KindStack.leave" = true) (k68 : PySem.W.keepIn K (.ref f68) = true)
    (pg_Walker : PySem.W.plainGet K cC_Walker Str.empty = true)
    (hd_Walker : PySem.W.hasDictIn K cC_Walker = true)
    (po_Walker : PySem.W.plainOver K cC_Walker = true)
    (sa_Walker : PySem.W.findIn K (.ref cC_Walker) "__setattr__" = some (some (.builtin "object.__setattr__")))
    (mk_Walker : PySem.W.makesIn K cC_Walker = true)
    (kc_Walker : PySem.W.keepIn K (.ref cC_Walker) = true)
    (na_Walker_scope : PySem.W.findIn K (.ref cC_Walker) "scope" = some none)
    (na_Walker_stack : PySem.W.findIn K (.ref cC_Walker) "stack" = some none)
    (na_Walker_seen : PySem.W.findIn K (.ref cC_Walker) "seen" = some none)
    (na_Walker_reason : PySem.W.findIn K (.ref cC_Walker) "reason" = some none)
    (am69 : PySem.W.findIn K (.ref cC_Walker) "__init__" = some (some (.ref f69))) (im69 : PySem.W.isFn K (.ref f69) = true)
    (l69 : K.lookup f69 = some ⟨oc69, od69, .func (PySem.W.fnOf "__init__" "Walker.__init__" (defArgs s_Walker___init__) (defBody s_Walker___init__) (defScope s_Walker___init__) .none kV69 dc69 pm69 an69 cd69 ct69), sl69⟩) (c69 : PySem.W.codeIn K cd69 "Walker.__init__" = true) (k69 : PySem.W.keepIn K (.ref f69) = true)
    (am70 : PySem.W.findIn K (.ref cC_Walker) "walk" = some (some (.ref f70))) (im70 : PySem.W.isFn K (.ref f70) = true)
    (l70 : K.lookup f70 = some ⟨oc70, od70, .func (PySem.W.fnOf "walk" "Walker.walk" (defArgs s_Walker_walk) (defBody s_Walker_walk) (defScope s_Walker_walk) .none kV70 dc70 pm70 an70 cd70 ct70), sl70⟩) (c70 : PySem.W.codeIn K cd70 "Walker.walk" = true) (k70 : PySem.W.keepIn K (.ref f70) = true)
    (am71 : PySem.W.findIn K (.ref cC_Walker) "mark" = some (some (.ref f71))) (im71 : PySem.W.isFn K (.ref f71) = true)
    (l71 : K.lookup f71 = some ⟨oc71, od71, .func (PySem.W.fnOf "mark" "Walker.mark" (defArgs s_Walker_mark) (defBody s_Walker_mark) (defScope s_Walker_mark) .none kV71 dc71 pm71 an71 cd71 ct71), sl71⟩) (c71 : PySem.W.codeIn K cd71 "Walker.mark" = true) (k71 : PySem.W.keepIn K (.ref f71) = true)
    (am72 : PySem.W.findIn K (.ref cC_Walker) "walk_body" = some (some (.ref f72))) (im72 : PySem.W.isFn K (.ref f72) = true)
    (l72 : K.lookup f72 = some ⟨oc72, od72, .func (PySem.W.fnOf "walk_body" "Walker.walk_body" (defArgs s_Walker_walk_body) (defBody s_Walker_walk_body) (defScope s_Walker_walk_body) .none kV72 dc72 pm72 an72 cd72 ct72), sl72⟩) (c72 : PySem.W.codeIn K cd72 "Walker.walk_body" = true) (k72 : PySem.W.keepIn K (.ref f72) = true)
    (am73 : PySem.W.findIn K (.ref cC_Walker) "walk_instruction" = some (some (.ref f73))) (im73 : PySem.W.isFn K (.ref f73) = true)
    (l73 : K.lookup f73 = some ⟨oc73, od73, .func (PySem.W.fnOf "walk_instruction" "Walker.walk_instruction" (defArgs s_Walker_walk_instruction) (defBody s_Walker_walk_instruction) (defScope s_Walker_walk_instruction) .none kV73 dc73 pm73 an73 cd73 ct73), sl73⟩) (c73 : PySem.W.codeIn K cd73 "Walker.walk_instruction" = true) (k73 : PySem.W.keepIn K (.ref f73) = true)
    (am74 : PySem.W.findIn K (.ref cC_Walker) "choose" = some (some (.ref f74))) (im74 : PySem.W.isFn K (.ref f74) = true)
    (l74 : K.lookup f74 = some ⟨oc74, od74, .func (PySem.W.fnOf "choose" "Walker.choose" (defArgs s_Walker_choose) (defBody s_Walker_choose) (defScope s_Walker_choose) .none kV74 dc74 pm74 an74 cd74 ct74), sl74⟩) (c74 : PySem.W.codeIn K cd74 "Walker.choose" = true) (k74 : PySem.W.keepIn K (.ref f74) = true)
    (am75 : PySem.W.findIn K (.ref cC_Walker) "branch_by_table" = some (some (.ref f75))) (im75 : PySem.W.isFn K (.ref f75) = true)
    (l75 : K.lookup f75 = some ⟨oc75, od75, .func (PySem.W.fnOf "branch_by_table" "Walker.branch_by_table" (defArgs s_Walker_branch_by_table) (defBody s_Walker_branch_by_table) (defScope s_Walker_branch_by_table) .none kV75 dc75 pm75 an75 cd75 ct75), sl75⟩) (c75 : PySem.W.codeIn K cd75 "Walker.branch_by_table" = true) (k75 : PySem.W.keepIn K (.ref f75) = true)
    (am76 : PySem.W.findIn K (.ref cC_Walker) "check_catch" = some (some (.ref f76))) (im76 : PySem.W.isFn K (.ref f76) = true)
    (l76 : K.lookup f76 = some ⟨oc76, od76, .func (PySem.W.fnOf "check_catch" "Walker.check_catch" (defArgs s_Walker_check_catch) (defBody s_Walker_check_catch) (defScope s_Walker_check_catch) .none kV76 dc76 pm76 an76 cd76 ct76), sl76⟩) (c76 : PySem.W.codeIn K cd76 "Walker.check_catch" = true) (k76 : PySem.W.keepIn K (.ref f76) = true)
    (am77 : PySem.W.findIn K (.ref cC_Walker) "walk_block" = some (some (.ref f77))) (im77 : PySem.W.isFn K (.ref f77) = true)
    (l77 : K.lookup f77 = some ⟨oc77, od77, .func (PySem.W.fnOf "walk_block" "Walker.walk_block" (defArgs s_Walker_walk_block) (defBody s_Walker_walk_block) (defScope s_Walker_walk_block) .none kV77 dc77 pm77 an77 cd77 ct77), sl77⟩) (c77 : PySem.W.codeIn K cd77 "Walker.walk_block" = true) (k77 : PySem.W.keepIn K (.ref f77) = true)
    : ∃ fd : FuncData, (∀ (s : Shared) (v : Value), BindsTo s fd ⟨[v], []⟩ [("script", v)]) ∧ ∀ base : Heap, K.In base → base.Ns mainGlobals mg → FnOk l.prog w K mg base CX0 38 fa fd ["script"] (sp_lawK K) := by
  have e := hfa.symm.trans (PySem.W.mg_of X G a46)
  cases e
  have FI_CodeFault := fun_mk (st := i_CodeFault) lI_CodeFault cdo_CodeFault kI_CodeFault
  have T : Tp w K mg (⟨cC_HostError, cC_CodeFault, cI_CodeFault, (PySem.W.fnOf "__init__" "CodeFault.__init__" (defArgs i_CodeFault) (defBody i_CodeFault) (defScope i_CodeFault) .none kVI_CodeFault dcI_CodeFault pmI_CodeFault anI_CodeFault cdI_CodeFault ctI_CodeFault), ct_LISTS, ct_BLOCKS, ct_ACCESS_BITS, ct_MOST_EXPONENTS, ct_RULES, ct_MEMORY_EFFECTS, ct_PLAIN_EFFECTS, ct_LOOSENING, ct_UNKNOWN, f29, f30, f27, f28, f26, f32, f34, f35, f33, f1, f2, f3, f4, f5, f10, f11, f12, f13, f14, f15, f16, f17, f18, f19, f20, cC_Module, cC_Scope, cC_Level, cC_KindStack, cC_Walker, ce_Module_signatures, ce_Module_imports, ce_Module_functions, ce_Module_tables, ce_Module_memories, ce_Module_tags, ce_Module_variables, ce_Module_exports, ce_Module_table_segments, ce_Module_memory_segments, cq_MEMORY_EFFECTS_0, cq_MEMORY_EFFECTS_1, cq_MEMORY_EFFECTS_2, cq_MEMORY_EFFECTS_3, cq_PLAIN_EFFECTS_0, cq_PLAIN_EFFECTS_1, cq_PLAIN_EFFECTS_2, cq_PLAIN_EFFECTS_3, cq_PLAIN_EFFECTS_4⟩ : Cs) := ⟨PySem.W.mg_none_of X G z_abs, PySem.W.mg_none_of X G z_enumerate, PySem.W.mg_none_of X G z_int, PySem.W.mg_none_of X G z_len, PySem.W.mg_none_of X G z_list, PySem.W.mg_none_of X G z_min, PySem.W.mg_none_of X G z_range, PySem.W.mg_none_of X G z_tuple, PySem.W.mg_none_of X G z_zip, PySem.W.mg_of X G aC_HostError, PySem.W.mg_of X G aC_CodeFault, ⟨PySem.W.mg_of X G aC_CodeFault, ⟨⟨nm_CodeFault, qn_CodeFault, N_CodeFault, bs_CodeFault, _, sn_CodeFault, sub_CodeFault, ab_CodeFault, col_CodeFault, dd_CodeFault, m0_CodeFault, m1_CodeFault, m2_CodeFault, m3_CodeFault, m5_CodeFault, xl_CodeFault, by rfl⟩, sa_CodeFault, ex_CodeFault, ty_CodeFault, kp_CodeFault⟩, ga_CodeFault, gg_CodeFault, hd_CodeFault, ca_CodeFault, sp0, tk0, mr_CodeFault⟩, aI_CodeFault, tI_CodeFault, FI_CodeFault, FI_CodeFault.binds (ps := ["self", "reason"]) fun _ _ _ _ _ _ us hl => match us, hl with | [_, _], _ => rfl, no_CodeFault_reason, kit_two ne_CodeFault_HostError hd_HostError ty_HostError sub_CodeFault_HostError, PySem.W.exm_ref ex_HostError hd_HostError ty_HostError sub_CodeFault_HostError, kit_self, PySem.W.exm_ref ex_CodeFault hd_CodeFault ty_CodeFault sub_CodeFault_CodeFault, kit_ve sub_CodeFault_VE, PySem.W.mg_of X G at_LISTS, ⟨⟨_, _, lt_LISTS, st_LISTS, vt_LISTS⟩⟩, PySem.W.mg_of X G at_BLOCKS, ⟨⟨_, _, _, lt_BLOCKS, rfl, rfl, zt_BLOCKS, vt_BLOCKS⟩⟩, PySem.W.mg_of X G at_ACCESS_BITS, ⟨⟨_, _, lt_ACCESS_BITS, st_ACCESS_BITS, vt_ACCESS_BITS⟩⟩, PySem.W.mg_of X G at_MOST_EXPONENTS, ⟨⟨_, _, lt_MOST_EXPONENTS, st_MOST_EXPONENTS, vt_MOST_EXPONENTS⟩, nd_MOST_EXPONENTS⟩, PySem.W.mg_of X G at_RULES, ⟨⟨_, _, lt_RULES, st_RULES, vt_RULES⟩⟩, PySem.W.mg_of X G at_MEMORY_EFFECTS, ⟨⟨_, _, lt_MEMORY_EFFECTS, st_MEMORY_EFFECTS, vt_MEMORY_EFFECTS⟩⟩, (fun _ => (.tup (.inr ⟨_, _, _, lq_MEMORY_EFFECTS_0, rfl, rfl, ze_q_MEMORY_EFFECTS_0, vw_q_MEMORY_EFFECTS_0⟩) (.cons (.tup (.inr ⟨_, _, _, lq_MEMORY_EFFECTS_0_0, rfl, rfl, ze_q_MEMORY_EFFECTS_0_0, vw_q_MEMORY_EFFECTS_0_0⟩) .nil) (.cons (.tup (.inr ⟨_, _, _, lq_MEMORY_EFFECTS_0_1, rfl, rfl, ze_q_MEMORY_EFFECTS_0_1, vw_q_MEMORY_EFFECTS_0_1⟩) (.cons (.str _) .nil)) .nil)))), (fun _ => (.tup (.inr ⟨_, _, _, lq_MEMORY_EFFECTS_1, rfl, rfl, ze_q_MEMORY_EFFECTS_1, vw_q_MEMORY_EFFECTS_1⟩) (.cons (.tup (.inr ⟨_, _, _, lq_MEMORY_EFFECTS_1_0, rfl, rfl, ze_q_MEMORY_EFFECTS_1_0, vw_q_MEMORY_EFFECTS_1_0⟩) (.cons (.str _) .nil)) (.cons (.tup (.inr ⟨_, _, _, lq_MEMORY_EFFECTS_1_1, rfl, rfl, ze_q_MEMORY_EFFECTS_1_1, vw_q_MEMORY_EFFECTS_1_1⟩) (.cons (.str _) .nil)) .nil)))), (fun _ => (.tup (.inr ⟨_, _, _, lq_MEMORY_EFFECTS_2, rfl, rfl, ze_q_MEMORY_EFFECTS_2, vw_q_MEMORY_EFFECTS_2⟩) (.cons (.tup (.inr ⟨_, _, _, lq_MEMORY_EFFECTS_2_0, rfl, rfl, ze_q_MEMORY_EFFECTS_2_0, vw_q_MEMORY_EFFECTS_2_0⟩) (.cons (.str _) (.cons (.str _) (.cons (.str _) .nil)))) (.cons (.tup (.inr ⟨_, _, _, lq_MEMORY_EFFECTS_2_1, rfl, rfl, ze_q_MEMORY_EFFECTS_2_1, vw_q_MEMORY_EFFECTS_2_1⟩) .nil) .nil)))), (fun _ => (.tup (.inr ⟨_, _, _, lq_MEMORY_EFFECTS_3, rfl, rfl, ze_q_MEMORY_EFFECTS_3, vw_q_MEMORY_EFFECTS_3⟩) (.cons (.tup (.inr ⟨_, _, _, lq_MEMORY_EFFECTS_3_0, rfl, rfl, ze_q_MEMORY_EFFECTS_3_0, vw_q_MEMORY_EFFECTS_3_0⟩) (.cons (.str _) (.cons (.str _) (.cons (.str _) .nil)))) (.cons (.tup (.inr ⟨_, _, _, lq_MEMORY_EFFECTS_3_1, rfl, rfl, ze_q_MEMORY_EFFECTS_3_1, vw_q_MEMORY_EFFECTS_3_1⟩) .nil) .nil)))), PySem.W.mg_of X G at_PLAIN_EFFECTS, ⟨⟨_, _, lt_PLAIN_EFFECTS, st_PLAIN_EFFECTS, vt_PLAIN_EFFECTS⟩⟩, (fun _ => (.tup (.inr ⟨_, _, _, lq_PLAIN_EFFECTS_0, rfl, rfl, ze_q_PLAIN_EFFECTS_0, vw_q_PLAIN_EFFECTS_0⟩) (.cons (.tup (.inr ⟨_, _, _, lq_PLAIN_EFFECTS_0_0, rfl, rfl, ze_q_PLAIN_EFFECTS_0_0, vw_q_PLAIN_EFFECTS_0_0⟩) .nil) (.cons (.tup (.inr ⟨_, _, _, lq_PLAIN_EFFECTS_0_1, rfl, rfl, ze_q_PLAIN_EFFECTS_0_1, vw_q_PLAIN_EFFECTS_0_1⟩) .nil) .nil)))), (fun _ => (.tup (.inr ⟨_, _, _, lq_PLAIN_EFFECTS_1, rfl, rfl, ze_q_PLAIN_EFFECTS_1, vw_q_PLAIN_EFFECTS_1⟩) (.cons (.tup (.inr ⟨_, _, _, lq_PLAIN_EFFECTS_1_0, rfl, rfl, ze_q_PLAIN_EFFECTS_1_0, vw_q_PLAIN_EFFECTS_1_0⟩) .nil) (.cons (.tup (.inr ⟨_, _, _, lq_PLAIN_EFFECTS_1_1, rfl, rfl, ze_q_PLAIN_EFFECTS_1_1, vw_q_PLAIN_EFFECTS_1_1⟩) .nil) .nil)))), (fun _ => (.tup (.inr ⟨_, _, _, lq_PLAIN_EFFECTS_2, rfl, rfl, ze_q_PLAIN_EFFECTS_2, vw_q_PLAIN_EFFECTS_2⟩) (.cons (.tup (.inr ⟨_, _, _, lq_PLAIN_EFFECTS_2_0, rfl, rfl, ze_q_PLAIN_EFFECTS_2_0, vw_q_PLAIN_EFFECTS_2_0⟩) (.cons .non .nil)) (.cons (.tup (.inr ⟨_, _, _, lq_PLAIN_EFFECTS_2_1, rfl, rfl, ze_q_PLAIN_EFFECTS_2_1, vw_q_PLAIN_EFFECTS_2_1⟩) .nil) .nil)))), (fun _ => (.tup (.inr ⟨_, _, _, lq_PLAIN_EFFECTS_3, rfl, rfl, ze_q_PLAIN_EFFECTS_3, vw_q_PLAIN_EFFECTS_3⟩) (.cons (.tup (.inr ⟨_, _, _, lq_PLAIN_EFFECTS_3_0, rfl, rfl, ze_q_PLAIN_EFFECTS_3_0, vw_q_PLAIN_EFFECTS_3_0⟩) .nil) (.cons (.tup (.inr ⟨_, _, _, lq_PLAIN_EFFECTS_3_1, rfl, rfl, ze_q_PLAIN_EFFECTS_3_1, vw_q_PLAIN_EFFECTS_3_1⟩) (.cons (.str _) .nil)) .nil)))), (fun _ => (.tup (.inr ⟨_, _, _, lq_PLAIN_EFFECTS_4, rfl, rfl, ze_q_PLAIN_EFFECTS_4, vw_q_PLAIN_EFFECTS_4⟩) (.cons (.tup (.inr ⟨_, _, _, lq_PLAIN_EFFECTS_4_0, rfl, rfl, ze_q_PLAIN_EFFECTS_4_0, vw_q_PLAIN_EFFECTS_4_0⟩) .nil) (.cons (.tup (.inr ⟨_, _, _, lq_PLAIN_EFFECTS_4_1, rfl, rfl, ze_q_PLAIN_EFFECTS_4_1, vw_q_PLAIN_EFFECTS_4_1⟩) (.cons (.str _) .nil)) .nil)))), PySem.W.mg_of X G at_LOOSENING, ⟨⟨_, _, _, lt_LOOSENING, rfl, rfl, zt_LOOSENING, vt_LOOSENING⟩⟩, PySem.W.mg_of X G at_UNKNOWN, ⟨⟨_, _, lt_UNKNOWN, st_UNKNOWN, vt_UNKNOWN⟩⟩, ⟨_, PySem.W.mg_of X G ai_MOST_PAGES⟩, PySem.W.mg_of X G aC_Module, ⟨pg_Module, hd_Module, po_Module, sa_Module⟩, na_Module_signatures, na_Module_imports, na_Module_functions, na_Module_tables, na_Module_memories, na_Module_tags, na_Module_variables, na_Module_exports, na_Module_start, na_Module_table_segments, na_Module_memory_segments, ⟨_, _, _, le_Module_signatures, rfl, rfl, ze_Module_signatures, ve_Module_signatures⟩, ⟨_, _, _, le_Module_imports, rfl, rfl, ze_Module_imports, ve_Module_imports⟩, ⟨_, _, _, le_Module_functions, rfl, rfl, ze_Module_functions, ve_Module_functions⟩, ⟨_, _, _, le_Module_tables, rfl, rfl, ze_Module_tables, ve_Module_tables⟩, ⟨_, _, _, le_Module_memories, rfl, rfl, ze_Module_memories, ve_Module_memories⟩, ⟨_, _, _, le_Module_tags, rfl, rfl, ze_Module_tags, ve_Module_tags⟩, ⟨_, _, _, le_Module_variables, rfl, rfl, ze_Module_variables, ve_Module_variables⟩, ⟨_, _, _, le_Module_exports, rfl, rfl, ze_Module_exports, ve_Module_exports⟩, ⟨_, _, _, le_Module_table_segments, rfl, rfl, ze_Module_table_segments, ve_Module_table_segments⟩, ⟨_, _, _, le_Module_memory_segments, rfl, rfl, ze_Module_memory_segments, ve_Module_memory_segments⟩, PySem.W.mg_of X G aC_Scope, ⟨pg_Scope, hd_Scope, po_Scope, sa_Scope⟩, na_Scope_slots, na_Scope_results, na_Scope_labels, na_Scope_signatures, na_Scope_function_indexes, na_Scope_tag_indexes, na_Scope_heads, na_Scope_table_count, na_Scope_memory_count, PySem.W.mg_of X G aC_Level, ⟨pg_Level, hd_Level, po_Level, sa_Level⟩, na_Level_floor, na_Level_buried, na_Level_loose, PySem.W.mg_of X G aC_KindStack, ⟨pg_KindStack, hd_KindStack, po_KindStack, sa_KindStack⟩, na_KindStack_held, na_KindStack_levels, PySem.W.mg_of X G aC_Walker, ⟨pg_Walker, hd_Walker, po_Walker, sa_Walker⟩, na_Walker_scope, na_Walker_stack, na_Walker_seen, na_Walker_reason, PySem.W.mg_of X G a29, PySem.W.mg_of X G a30, PySem.W.mg_of X G a27, PySem.W.mg_of X G a28, PySem.W.mg_of X G a26, PySem.W.mg_of X G a32, PySem.W.mg_of X G a34, PySem.W.mg_of X G a35, PySem.W.mg_of X G a33, PySem.W.mg_of X G a1, PySem.W.mg_of X G a2, PySem.W.mg_of X G a3, PySem.W.mg_of X G a4, PySem.W.mg_of X G a5, PySem.W.mg_of X G a10, PySem.W.mg_of X G a11, PySem.W.mg_of X G a12, PySem.W.mg_of X G a13, PySem.W.mg_of X G a14, PySem.W.mg_of X G a15, PySem.W.mg_of X G a16, PySem.W.mg_of X G a17, PySem.W.mg_of X G a18, PySem.W.mg_of X G a19, PySem.W.mg_of X G a20⟩
  have F0 := fun_mk (st := s_imported_items) l0 c0 k0
  have D_imported_items : Def K mg "imported_items" s_imported_items ["module", "kind"] := ⟨_, _, F0, PySem.W.mg_of X G a0, F0.binds (ps := ["module", "kind"]) fun _ _ _ _ _ _ us hl => match us, hl with | [_, _], _ => rfl⟩
  have F1 := fun_mk (st := s_function_signatures) l1 c1 k1
  have D_function_signatures : Def K mg "function_signatures" s_function_signatures ["module"] := ⟨_, _, F1, PySem.W.mg_of X G a1, F1.binds (ps := ["module"]) fun _ _ _ _ _ _ us hl => match us, hl with | [_], _ => rfl⟩
  have F2 := fun_mk (st := s_table_limits) l2 c2 k2
  have D_table_limits : Def K mg "table_limits" s_table_limits ["module"] := ⟨_, _, F2, PySem.W.mg_of X G a2, F2.binds (ps := ["module"]) fun _ _ _ _ _ _ us hl => match us, hl with | [_], _ => rfl⟩
  have F3 := fun_mk (st := s_memory_limits) l3 c3 k3
  have D_memory_limits : Def K mg "memory_limits" s_memory_limits ["module"] := ⟨_, _, F3, PySem.W.mg_of X G a3, F3.binds (ps := ["module"]) fun _ _ _ _ _ _ us hl => match us, hl with | [_], _ => rfl⟩
  have F4 := fun_mk (st := s_global_heads) l4 c4 k4
  have D_global_heads : Def K mg "global_heads" s_global_heads ["module"] := ⟨_, _, F4, PySem.W.mg_of X G a4, F4.binds (ps := ["module"]) fun _ _ _ _ _ _ us hl => match us, hl with | [_], _ => rfl⟩
  have F5 := fun_mk (st := s_tag_signatures) l5 c5 k5
  have D_tag_signatures : Def K mg "tag_signatures" s_tag_signatures ["module"] := ⟨_, _, F5, PySem.W.mg_of X G a5, F5.binds (ps := ["module"]) fun _ _ _ _ _ _ us hl => match us, hl with | [_], _ => rfl⟩
  have F6 := fun_mk (st := s_all_items) l6 c6 k6
  have D_all_items : Def K mg "all_items" s_all_items ["module", "sort"] := ⟨_, _, F6, PySem.W.mg_of X G a6, F6.binds (ps := ["module", "sort"]) fun _ _ _ _ _ _ us hl => match us, hl with | [_, _], _ => rfl⟩
  have F7 := fun_mk (st := s_count_items) l7 c7 k7
  have D_count_items : Def K mg "count_items" s_count_items ["module", "sort"] := ⟨_, _, F7, PySem.W.mg_of X G a7, F7.binds (ps := ["module", "sort"]) fun _ _ _ _ _ _ us hl => match us, hl with | [_, _], _ => rfl⟩
  have F8 := fun_mk (st := s_shape_kinds) l8 c8 k8
  have D_shape_kinds : Def K mg "shape_kinds" s_shape_kinds ["signatures", "shape"] := ⟨_, _, F8, PySem.W.mg_of X G a8, F8.binds (ps := ["signatures", "shape"]) fun _ _ _ _ _ _ us hl => match us, hl with | [_, _], _ => rfl⟩
  have F9 := fun_mk (st := s_bodies_of) l9 c9 k9
  have D_bodies_of : Def K mg "bodies_of" s_bodies_of ["instruction"] := ⟨_, _, F9, PySem.W.mg_of X G a9, F9.binds (ps := ["instruction"]) fun _ _ _ _ _ _ us hl => match us, hl with | [_], _ => rfl⟩
  have F10 := fun_mk (st := s_local_get) l10 c10 k10
  have D_local_get : Def K mg "local_get" s_local_get ["scope", "instruction"] := ⟨_, _, F10, PySem.W.mg_of X G a10, F10.binds (ps := ["scope", "instruction"]) fun _ _ _ _ _ _ us hl => match us, hl with | [_, _], _ => rfl⟩
  have F11 := fun_mk (st := s_local_set) l11 c11 k11
  have D_local_set : Def K mg "local_set" s_local_set ["scope", "instruction"] := ⟨_, _, F11, PySem.W.mg_of X G a11, F11.binds (ps := ["scope", "instruction"]) fun _ _ _ _ _ _ us hl => match us, hl with | [_, _], _ => rfl⟩
  have F12 := fun_mk (st := s_local_tee) l12 c12 k12
  have D_local_tee : Def K mg "local_tee" s_local_tee ["scope", "instruction"] := ⟨_, _, F12, PySem.W.mg_of X G a12, F12.binds (ps := ["scope", "instruction"]) fun _ _ _ _ _ _ us hl => match us, hl with | [_, _], _ => rfl⟩
  have F13 := fun_mk (st := s_global_get) l13 c13 k13
  have D_global_get : Def K mg "global_get" s_global_get ["scope", "instruction"] := ⟨_, _, F13, PySem.W.mg_of X G a13, F13.binds (ps := ["scope", "instruction"]) fun _ _ _ _ _ _ us hl => match us, hl with | [_, _], _ => rfl⟩
  have F14 := fun_mk (st := s_global_set) l14 c14 k14
  have D_global_set : Def K mg "global_set" s_global_set ["scope", "instruction"] := ⟨_, _, F14, PySem.W.mg_of X G a14, F14.binds (ps := ["scope", "instruction"]) fun _ _ _ _ _ _ us hl => match us, hl with | [_, _], _ => rfl⟩
  have F15 := fun_mk (st := s_br) l15 c15 k15
  have D_br : Def K mg "br" s_br ["scope", "instruction"] := ⟨_, _, F15, PySem.W.mg_of X G a15, F15.binds (ps := ["scope", "instruction"]) fun _ _ _ _ _ _ us hl => match us, hl with | [_, _], _ => rfl⟩
  have F16 := fun_mk (st := s_br_if) l16 c16 k16
  have D_br_if : Def K mg "br_if" s_br_if ["scope", "instruction"] := ⟨_, _, F16, PySem.W.mg_of X G a16, F16.binds (ps := ["scope", "instruction"]) fun _ _ _ _ _ _ us hl => match us, hl with | [_, _], _ => rfl⟩
  have F17 := fun_mk (st := s_return_effect) l17 c17 k17
  have D_return_effect : Def K mg "return_effect" s_return_effect ["scope", "instruction"] := ⟨_, _, F17, PySem.W.mg_of X G a17, F17.binds (ps := ["scope", "instruction"]) fun _ _ _ _ _ _ us hl => match us, hl with | [_, _], _ => rfl⟩
  have F18 := fun_mk (st := s_call) l18 c18 k18
  have D_call : Def K mg "call" s_call ["scope", "instruction"] := ⟨_, _, F18, PySem.W.mg_of X G a18, F18.binds (ps := ["scope", "instruction"]) fun _ _ _ _ _ _ us hl => match us, hl with | [_, _], _ => rfl⟩
  have F19 := fun_mk (st := s_call_indirect) l19 c19 k19
  have D_call_indirect : Def K mg "call_indirect" s_call_indirect ["scope", "instruction"] := ⟨_, _, F19, PySem.W.mg_of X G a19, F19.binds (ps := ["scope", "instruction"]) fun _ _ _ _ _ _ us hl => match us, hl with | [_, _], _ => rfl⟩
  have F20 := fun_mk (st := s_throw) l20 c20 k20
  have D_throw : Def K mg "throw" s_throw ["scope", "instruction"] := ⟨_, _, F20, PySem.W.mg_of X G a20, F20.binds (ps := ["scope", "instruction"]) fun _ _ _ _ _ _ us hl => match us, hl with | [_, _], _ => rfl⟩
  have F21 := fun_mk (st := s_access_effect) l21 c21 k21
  have D_access_effect : Def K mg "access_effect" s_access_effect ["scope", "instruction"] := ⟨_, _, F21, PySem.W.mg_of X G a21, F21.binds (ps := ["scope", "instruction"]) fun _ _ _ _ _ _ us hl => match us, hl with | [_, _], _ => rfl⟩
  have F22 := fun_mk (st := s_effect_of) l22 c22 k22
  have D_effect_of : Def K mg "effect_of" s_effect_of ["scope", "instruction"] := ⟨_, _, F22, PySem.W.mg_of X G a22, F22.binds (ps := ["scope", "instruction"]) fun _ _ _ _ _ _ us hl => match us, hl with | [_, _], _ => rfl⟩
  have F23 := fun_mk (st := s_agree) l23 c23 k23
  have D_agree : Def K mg "agree" s_agree ["found", "wanted"] := ⟨_, _, F23, PySem.W.mg_of X G a23, F23.binds (ps := ["found", "wanted"]) fun _ _ _ _ _ _ us hl => match us, hl with | [_, _], _ => rfl⟩
  have F24 := fun_mk (st := s_walk_through) l24 c24 k24
  have D_walk_through : Def K mg "walk_through" s_walk_through ["module", "function"] := ⟨_, _, F24, PySem.W.mg_of X G a24, F24.binds (ps := ["module", "function"]) fun _ _ _ _ _ _ us hl => match us, hl with | [_, _], _ => rfl⟩
  have F25 := fun_mk (st := s_signature_reason) l25 c25 k25
  have D_signature_reason : Def K mg "signature_reason" s_signature_reason ["module", "index"] := ⟨_, _, F25, PySem.W.mg_of X G a25, F25.binds (ps := ["module", "index"]) fun _ _ _ _ _ _ us hl => match us, hl with | [_, _], _ => rfl⟩
  have F26 := fun_mk (st := s_tag_reason) l26 c26 k26
  have D_tag_reason : Def K mg "tag_reason" s_tag_reason ["module", "index"] := ⟨_, _, F26, PySem.W.mg_of X G a26, F26.binds (ps := ["module", "index"]) fun _ _ _ _ _ _ us hl => match us, hl with | [_, _], _ => rfl⟩
  have F27 := fun_mk (st := s_table_reason) l27 c27 k27
  have D_table_reason : Def K mg "table_reason" s_table_reason ["module", "limit"] := ⟨_, _, F27, PySem.W.mg_of X G a27, F27.binds (ps := ["module", "limit"]) fun _ _ _ _ _ _ us hl => match us, hl with | [_, _], _ => rfl⟩
  have F28 := fun_mk (st := s_memory_reason) l28 c28 k28
  have D_memory_reason : Def K mg "memory_reason" s_memory_reason ["module", "limit"] := ⟨_, _, F28, PySem.W.mg_of X G a28, F28.binds (ps := ["module", "limit"]) fun _ _ _ _ _ _ us hl => match us, hl with | [_, _], _ => rfl⟩
  have F29 := fun_mk (st := s_import_reason) l29 c29 k29
  have D_import_reason : Def K mg "import_reason" s_import_reason ["module", "row"] := ⟨_, _, F29, PySem.W.mg_of X G a29, F29.binds (ps := ["module", "row"]) fun _ _ _ _ _ _ us hl => match us, hl with | [_, _], _ => rfl⟩
  have F30 := fun_mk (st := s_function_reason) l30 c30 k30
  have D_function_reason : Def K mg "function_reason" s_function_reason ["module", "function"] := ⟨_, _, F30, PySem.W.mg_of X G a30, F30.binds (ps := ["module", "function"]) fun _ _ _ _ _ _ us hl => match us, hl with | [_, _], _ => rfl⟩
  have F31 := fun_mk (st := s_constant_reason) l31 c31 k31
  have D_constant_reason : Def K mg "constant_reason" s_constant_reason ["module", "constant", "kind"] := ⟨_, _, F31, PySem.W.mg_of X G a31, F31.binds (ps := ["module", "constant", "kind"]) fun _ _ _ _ _ _ us hl => match us, hl with | [_, _, _], _ => rfl⟩
  have F32 := fun_mk (st := s_global_reason) l32 c32 k32
  have D_global_reason : Def K mg "global_reason" s_global_reason ["module", "variable"] := ⟨_, _, F32, PySem.W.mg_of X G a32, F32.binds (ps := ["module", "variable"]) fun _ _ _ _ _ _ us hl => match us, hl with | [_, _], _ => rfl⟩
  have F33 := fun_mk (st := s_start_reason) l33 c33 k33
  have D_start_reason : Def K mg "start_reason" s_start_reason ["module", "func"] := ⟨_, _, F33, PySem.W.mg_of X G a33, F33.binds (ps := ["module", "func"]) fun _ _ _ _ _ _ us hl => match us, hl with | [_, _], _ => rfl⟩
  have F34 := fun_mk (st := s_table_segment_reason) l34 c34 k34
  have D_table_segment_reason : Def K mg "table_segment_reason" s_table_segment_reason ["module", "segment"] := ⟨_, _, F34, PySem.W.mg_of X G a34, F34.binds (ps := ["module", "segment"]) fun _ _ _ _ _ _ us hl => match us, hl with | [_, _], _ => rfl⟩
  have F35 := fun_mk (st := s_memory_segment_reason) l35 c35 k35
  have D_memory_segment_reason : Def K mg "memory_segment_reason" s_memory_segment_reason ["module", "segment"] := ⟨_, _, F35, PySem.W.mg_of X G a35, F35.binds (ps := ["module", "segment"]) fun _ _ _ _ _ _ us hl => match us, hl with | [_, _], _ => rfl⟩
  have F36 := fun_mk (st := s_first_fault) l36 c36 k36
  have D_first_fault : Def K mg "first_fault" s_first_fault ["module", "part", "rows", "reason_of"] := ⟨_, _, F36, PySem.W.mg_of X G a36, F36.binds (ps := ["module", "part", "rows", "reason_of"]) fun _ _ _ _ _ _ us hl => match us, hl with | [_, _, _, _], _ => rfl⟩
  have F37 := fun_mk (st := s_memory_count_fault) l37 c37 k37
  have D_memory_count_fault : Def K mg "memory_count_fault" s_memory_count_fault ["module"] := ⟨_, _, F37, PySem.W.mg_of X G a37, F37.binds (ps := ["module"]) fun _ _ _ _ _ _ us hl => match us, hl with | [_], _ => rfl⟩
  have F38 := fun_mk (st := s_export_fault) l38 c38 k38
  have D_export_fault : Def K mg "export_fault" s_export_fault ["module"] := ⟨_, _, F38, PySem.W.mg_of X G a38, F38.binds (ps := ["module"]) fun _ _ _ _ _ _ us hl => match us, hl with | [_], _ => rfl⟩
  have F39 := fun_mk (st := s_start_fault) l39 c39 k39
  have D_start_fault : Def K mg "start_fault" s_start_fault ["module"] := ⟨_, _, F39, PySem.W.mg_of X G a39, F39.binds (ps := ["module"]) fun _ _ _ _ _ _ us hl => match us, hl with | [_], _ => rfl⟩
  have F40 := fun_mk (st := s_code_fault) l40 c40 k40
  have D_code_fault : Def K mg "code_fault" s_code_fault ["module"] := ⟨_, _, F40, PySem.W.mg_of X G a40, F40.binds (ps := ["module"]) fun _ _ _ _ _ _ us hl => match us, hl with | [_], _ => rfl⟩
  have F41 := fun_mk (st := s_check) l41 c41 k41
  have D_check : Def K mg "check" s_check ["module"] := ⟨_, _, F41, PySem.W.mg_of X G a41, F41.binds (ps := ["module"]) fun _ _ _ _ _ _ us hl => match us, hl with | [_], _ => rfl⟩
  have F42 := fun_mk (st := s__law_state) l42 c42 k42
  have D__law_state : Def K mg "_law_state" s__law_state ["script"] := ⟨_, _, F42, PySem.W.mg_of X G a42, F42.binds (ps := ["script"]) fun _ _ _ _ _ _ us hl => match us, hl with | [_], _ => rfl⟩
  have F43 := fun_mk (st := s__law_draw) l43 c43 k43
  have D__law_draw : Def K mg "_law_draw" s__law_draw ["state", "many"] := ⟨_, _, F43, PySem.W.mg_of X G a43, F43.binds (ps := ["state", "many"]) fun _ _ _ _ _ _ us hl => match us, hl with | [_, _], _ => rfl⟩
  have F44 := fun_mk (st := s__law_access) l44 c44 k44
  have D__law_access : Def K mg "_law_access" s__law_access ["pick"] := ⟨_, _, F44, PySem.W.mg_of X G a44, F44.binds (ps := ["pick"]) fun _ _ _ _ _ _ us hl => match us, hl with | [_], _ => rfl⟩
  have F45 := fun_mk (st := s__law_case) l45 c45 k45
  have D__law_case : Def K mg "_law_case" s__law_case ["state"] := ⟨_, _, F45, PySem.W.mg_of X G a45, F45.binds (ps := ["state"]) fun _ _ _ _ _ _ us hl => match us, hl with | [_], _ => rfl⟩
  have F46 := fun_mk (st := s_law) l46 c46 k46
  have D_Module___init__ : DefK K (Cs.C_Module (⟨cC_HostError, cC_CodeFault, cI_CodeFault, (PySem.W.fnOf "__init__" "CodeFault.__init__" (defArgs i_CodeFault) (defBody i_CodeFault) (defScope i_CodeFault) .none kVI_CodeFault dcI_CodeFault pmI_CodeFault anI_CodeFault cdI_CodeFault ctI_CodeFault), ct_LISTS, ct_BLOCKS, ct_ACCESS_BITS, ct_MOST_EXPONENTS, ct_RULES, ct_MEMORY_EFFECTS, ct_PLAIN_EFFECTS, ct_LOOSENING, ct_UNKNOWN, f29, f30, f27, f28, f26, f32, f34, f35, f33, f1, f2, f3, f4, f5, f10, f11, f12, f13, f14, f15, f16, f17, f18, f19, f20, cC_Module, cC_Scope, cC_Level, cC_KindStack, cC_Walker, ce_Module_signatures, ce_Module_imports, ce_Module_functions, ce_Module_tables, ce_Module_memories, ce_Module_tags, ce_Module_variables, ce_Module_exports, ce_Module_table_segments, ce_Module_memory_segments, cq_MEMORY_EFFECTS_0, cq_MEMORY_EFFECTS_1, cq_MEMORY_EFFECTS_2, cq_MEMORY_EFFECTS_3, cq_PLAIN_EFFECTS_0, cq_PLAIN_EFFECTS_1, cq_PLAIN_EFFECTS_2, cq_PLAIN_EFFECTS_3, cq_PLAIN_EFFECTS_4⟩ : Cs)) "Module.__init__" s_Module___init__ (kws_Module (⟨cC_HostError, cC_CodeFault, cI_CodeFault, (PySem.W.fnOf "__init__" "CodeFault.__init__" (defArgs i_CodeFault) (defBody i_CodeFault) (defScope i_CodeFault) .none kVI_CodeFault dcI_CodeFault pmI_CodeFault anI_CodeFault cdI_CodeFault ctI_CodeFault), ct_LISTS, ct_BLOCKS, ct_ACCESS_BITS, ct_MOST_EXPONENTS, ct_RULES, ct_MEMORY_EFFECTS, ct_PLAIN_EFFECTS, ct_LOOSENING, ct_UNKNOWN, f29, f30, f27, f28, f26, f32, f34, f35, f33, f1, f2, f3, f4, f5, f10, f11, f12, f13, f14, f15, f16, f17, f18, f19, f20, cC_Module, cC_Scope, cC_Level, cC_KindStack, cC_Walker, ce_Module_signatures, ce_Module_imports, ce_Module_functions, ce_Module_tables, ce_Module_memories, ce_Module_tags, ce_Module_variables, ce_Module_exports, ce_Module_table_segments, ce_Module_memory_segments, cq_MEMORY_EFFECTS_0, cq_MEMORY_EFFECTS_1, cq_MEMORY_EFFECTS_2, cq_MEMORY_EFFECTS_3, cq_PLAIN_EFFECTS_0, cq_PLAIN_EFFECTS_1, cq_PLAIN_EFFECTS_2, cq_PLAIN_EFFECTS_3, cq_PLAIN_EFFECTS_4⟩ : Cs)) := ⟨_, _, ⟨⟨_, _, _, _, _, _, _, _, _, _, rfl, l47, c47, .inl ⟨rfl, rfl⟩, .inr ⟨kD_Module, rfl, fun q hq => by
    unfold kws_Module at hq
    simp only [List.mem_cons, List.not_mem_nil, or_false] at hq
    rcases hq with rfl | rfl | rfl | rfl | rfl | rfl | rfl | rfl | rfl | rfl | rfl
    · exact ⟨_, kq_Module_signatures, rfl⟩
    · exact ⟨_, kq_Module_imports, rfl⟩
    · exact ⟨_, kq_Module_functions, rfl⟩
    · exact ⟨_, kq_Module_tables, rfl⟩
    · exact ⟨_, kq_Module_memories, rfl⟩
    · exact ⟨_, kq_Module_tags, rfl⟩
    · exact ⟨_, kq_Module_variables, rfl⟩
    · exact ⟨_, kq_Module_exports, rfl⟩
    · exact ⟨_, kq_Module_start, rfl⟩
    · exact ⟨_, kq_Module_table_segments, rfl⟩
    · exact ⟨_, kq_Module_memory_segments, rfl⟩
    ⟩⟩, k47⟩, ⟨mk_Module, am47, im47, kc_Module⟩⟩
  have F48 := fun_mk (st := s_Scope___init__) l48 c48 k48
  have D_Scope___init__ : DefI K (Cs.C_Scope (⟨cC_HostError, cC_CodeFault, cI_CodeFault, (PySem.W.fnOf "__init__" "CodeFault.__init__" (defArgs i_CodeFault) (defBody i_CodeFault) (defScope i_CodeFault) .none kVI_CodeFault dcI_CodeFault pmI_CodeFault anI_CodeFault cdI_CodeFault ctI_CodeFault), ct_LISTS, ct_BLOCKS, ct_ACCESS_BITS, ct_MOST_EXPONENTS, ct_RULES, ct_MEMORY_EFFECTS, ct_PLAIN_EFFECTS, ct_LOOSENING, ct_UNKNOWN, f29, f30, f27, f28, f26, f32, f34, f35, f33, f1, f2, f3, f4, f5, f10, f11, f12, f13, f14, f15, f16, f17, f18, f19, f20, cC_Module, cC_Scope, cC_Level, cC_KindStack, cC_Walker, ce_Module_signatures, ce_Module_imports, ce_Module_functions, ce_Module_tables, ce_Module_memories, ce_Module_tags, ce_Module_variables, ce_Module_exports, ce_Module_table_segments, ce_Module_memory_segments, cq_MEMORY_EFFECTS_0, cq_MEMORY_EFFECTS_1, cq_MEMORY_EFFECTS_2, cq_MEMORY_EFFECTS_3, cq_PLAIN_EFFECTS_0, cq_PLAIN_EFFECTS_1, cq_PLAIN_EFFECTS_2, cq_PLAIN_EFFECTS_3, cq_PLAIN_EFFECTS_4⟩ : Cs)) "Scope.__init__" s_Scope___init__ ["self", "module", "signature", "own_kinds"] := ⟨_, _, F48, ⟨mk_Scope, am48, im48, kc_Scope⟩, F48.binds (ps := ["self", "module", "signature", "own_kinds"]) fun _ _ _ _ _ _ us hl => match us, hl with | [_, _, _, _], _ => rfl⟩
  have F49 := fun_mk (st := s_Scope_slot) l49 c49 k49
  have D_Scope_slot : DefM K (Cs.C_Scope (⟨cC_HostError, cC_CodeFault, cI_CodeFault, (PySem.W.fnOf "__init__" "CodeFault.__init__" (defArgs i_CodeFault) (defBody i_CodeFault) (defScope i_CodeFault) .none kVI_CodeFault dcI_CodeFault pmI_CodeFault anI_CodeFault cdI_CodeFault ctI_CodeFault), ct_LISTS, ct_BLOCKS, ct_ACCESS_BITS, ct_MOST_EXPONENTS, ct_RULES, ct_MEMORY_EFFECTS, ct_PLAIN_EFFECTS, ct_LOOSENING, ct_UNKNOWN, f29, f30, f27, f28, f26, f32, f34, f35, f33, f1, f2, f3, f4, f5, f10, f11, f12, f13, f14, f15, f16, f17, f18, f19, f20, cC_Module, cC_Scope, cC_Level, cC_KindStack, cC_Walker, ce_Module_signatures, ce_Module_imports, ce_Module_functions, ce_Module_tables, ce_Module_memories, ce_Module_tags, ce_Module_variables, ce_Module_exports, ce_Module_table_segments, ce_Module_memory_segments, cq_MEMORY_EFFECTS_0, cq_MEMORY_EFFECTS_1, cq_MEMORY_EFFECTS_2, cq_MEMORY_EFFECTS_3, cq_PLAIN_EFFECTS_0, cq_PLAIN_EFFECTS_1, cq_PLAIN_EFFECTS_2, cq_PLAIN_EFFECTS_3, cq_PLAIN_EFFECTS_4⟩ : Cs)) "slot" "Scope.slot" s_Scope_slot ["self", "index"] := ⟨_, _, F49, ⟨am49, im49, k49⟩, F49.binds (ps := ["self", "index"]) fun _ _ _ _ _ _ us hl => match us, hl with | [_, _], _ => rfl⟩
  have F50 := fun_mk (st := s_Scope_variable) l50 c50 k50
  have D_Scope_variable : DefM K (Cs.C_Scope (⟨cC_HostError, cC_CodeFault, cI_CodeFault, (PySem.W.fnOf "__init__" "CodeFault.__init__" (defArgs i_CodeFault) (defBody i_CodeFault) (defScope i_CodeFault) .none kVI_CodeFault dcI_CodeFault pmI_CodeFault anI_CodeFault cdI_CodeFault ctI_CodeFault), ct_LISTS, ct_BLOCKS, ct_ACCESS_BITS, ct_MOST_EXPONENTS, ct_RULES, ct_MEMORY_EFFECTS, ct_PLAIN_EFFECTS, ct_LOOSENING, ct_UNKNOWN, f29, f30, f27, f28, f26, f32, f34, f35, f33, f1, f2, f3, f4, f5, f10, f11, f12, f13, f14, f15, f16, f17, f18, f19, f20, cC_Module, cC_Scope, cC_Level, cC_KindStack, cC_Walker, ce_Module_signatures, ce_Module_imports, ce_Module_functions, ce_Module_tables, ce_Module_memories, ce_Module_tags, ce_Module_variables, ce_Module_exports, ce_Module_table_segments, ce_Module_memory_segments, cq_MEMORY_EFFECTS_0, cq_MEMORY_EFFECTS_1, cq_MEMORY_EFFECTS_2, cq_MEMORY_EFFECTS_3, cq_PLAIN_EFFECTS_0, cq_PLAIN_EFFECTS_1, cq_PLAIN_EFFECTS_2, cq_PLAIN_EFFECTS_3, cq_PLAIN_EFFECTS_4⟩ : Cs)) "variable" "Scope.variable" s_Scope_variable ["self", "index"] := ⟨_, _, F50, ⟨am50, im50, k50⟩, F50.binds (ps := ["self", "index"]) fun _ _ _ _ _ _ us hl => match us, hl with | [_, _], _ => rfl⟩
  have F51 := fun_mk (st := s_Scope_signature) l51 c51 k51
  have D_Scope_signature : DefM K (Cs.C_Scope (⟨cC_HostError, cC_CodeFault, cI_CodeFault, (PySem.W.fnOf "__init__" "CodeFault.__init__" (defArgs i_CodeFault) (defBody i_CodeFault) (defScope i_CodeFault) .none kVI_CodeFault dcI_CodeFault pmI_CodeFault anI_CodeFault cdI_CodeFault ctI_CodeFault), ct_LISTS, ct_BLOCKS, ct_ACCESS_BITS, ct_MOST_EXPONENTS, ct_RULES, ct_MEMORY_EFFECTS, ct_PLAIN_EFFECTS, ct_LOOSENING, ct_UNKNOWN, f29, f30, f27, f28, f26, f32, f34, f35, f33, f1, f2, f3, f4, f5, f10, f11, f12, f13, f14, f15, f16, f17, f18, f19, f20, cC_Module, cC_Scope, cC_Level, cC_KindStack, cC_Walker, ce_Module_signatures, ce_Module_imports, ce_Module_functions, ce_Module_tables, ce_Module_memories, ce_Module_tags, ce_Module_variables, ce_Module_exports, ce_Module_table_segments, ce_Module_memory_segments, cq_MEMORY_EFFECTS_0, cq_MEMORY_EFFECTS_1, cq_MEMORY_EFFECTS_2, cq_MEMORY_EFFECTS_3, cq_PLAIN_EFFECTS_0, cq_PLAIN_EFFECTS_1, cq_PLAIN_EFFECTS_2, cq_PLAIN_EFFECTS_3, cq_PLAIN_EFFECTS_4⟩ : Cs)) "signature" "Scope.signature" s_Scope_signature ["self", "index"] := ⟨_, _, F51, ⟨am51, im51, k51⟩, F51.binds (ps := ["self", "index"]) fun _ _ _ _ _ _ us hl => match us, hl with | [_, _], _ => rfl⟩
  have F52 := fun_mk (st := s_Scope_function) l52 c52 k52
  have D_Scope_function : DefM K (Cs.C_Scope (⟨cC_HostError, cC_CodeFault, cI_CodeFault, (PySem.W.fnOf "__init__" "CodeFault.__init__" (defArgs i_CodeFault) (defBody i_CodeFault) (defScope i_CodeFault) .none kVI_CodeFault dcI_CodeFault pmI_CodeFault anI_CodeFault cdI_CodeFault ctI_CodeFault), ct_LISTS, ct_BLOCKS, ct_ACCESS_BITS, ct_MOST_EXPONENTS, ct_RULES, ct_MEMORY_EFFECTS, ct_PLAIN_EFFECTS, ct_LOOSENING, ct_UNKNOWN, f29, f30, f27, f28, f26, f32, f34, f35, f33, f1, f2, f3, f4, f5, f10, f11, f12, f13, f14, f15, f16, f17, f18, f19, f20, cC_Module, cC_Scope, cC_Level, cC_KindStack, cC_Walker, ce_Module_signatures, ce_Module_imports, ce_Module_functions, ce_Module_tables, ce_Module_memories, ce_Module_tags, ce_Module_variables, ce_Module_exports, ce_Module_table_segments, ce_Module_memory_segments, cq_MEMORY_EFFECTS_0, cq_MEMORY_EFFECTS_1, cq_MEMORY_EFFECTS_2, cq_MEMORY_EFFECTS_3, cq_PLAIN_EFFECTS_0, cq_PLAIN_EFFECTS_1, cq_PLAIN_EFFECTS_2, cq_PLAIN_EFFECTS_3, cq_PLAIN_EFFECTS_4⟩ : Cs)) "function" "Scope.function" s_Scope_function ["self", "index"] := ⟨_, _, F52, ⟨am52, im52, k52⟩, F52.binds (ps := ["self", "index"]) fun _ _ _ _ _ _ us hl => match us, hl with | [_, _], _ => rfl⟩
  have F53 := fun_mk (st := s_Scope_tag) l53 c53 k53
  have D_Scope_tag : DefM K (Cs.C_Scope (⟨cC_HostError, cC_CodeFault, cI_CodeFault, (PySem.W.fnOf "__init__" "CodeFault.__init__" (defArgs i_CodeFault) (defBody i_CodeFault) (defScope i_CodeFault) .none kVI_CodeFault dcI_CodeFault pmI_CodeFault anI_CodeFault cdI_CodeFault ctI_CodeFault), ct_LISTS, ct_BLOCKS, ct_ACCESS_BITS, ct_MOST_EXPONENTS, ct_RULES, ct_MEMORY_EFFECTS, ct_PLAIN_EFFECTS, ct_LOOSENING, ct_UNKNOWN, f29, f30, f27, f28, f26, f32, f34, f35, f33, f1, f2, f3, f4, f5, f10, f11, f12, f13, f14, f15, f16, f17, f18, f19, f20, cC_Module, cC_Scope, cC_Level, cC_KindStack, cC_Walker, ce_Module_signatures, ce_Module_imports, ce_Module_functions, ce_Module_tables, ce_Module_memories, ce_Module_tags, ce_Module_variables, ce_Module_exports, ce_Module_table_segments, ce_Module_memory_segments, cq_MEMORY_EFFECTS_0, cq_MEMORY_EFFECTS_1, cq_MEMORY_EFFECTS_2, cq_MEMORY_EFFECTS_3, cq_PLAIN_EFFECTS_0, cq_PLAIN_EFFECTS_1, cq_PLAIN_EFFECTS_2, cq_PLAIN_EFFECTS_3, cq_PLAIN_EFFECTS_4⟩ : Cs)) "tag" "Scope.tag" s_Scope_tag ["self", "index"] := ⟨_, _, F53, ⟨am53, im53, k53⟩, F53.binds (ps := ["self", "index"]) fun _ _ _ _ _ _ us hl => match us, hl with | [_, _], _ => rfl⟩
  have F54 := fun_mk (st := s_Scope_label) l54 c54 k54
  have D_Scope_label : DefM K (Cs.C_Scope (⟨cC_HostError, cC_CodeFault, cI_CodeFault, (PySem.W.fnOf "__init__" "CodeFault.__init__" (defArgs i_CodeFault) (defBody i_CodeFault) (defScope i_CodeFault) .none kVI_CodeFault dcI_CodeFault pmI_CodeFault anI_CodeFault cdI_CodeFault ctI_CodeFault), ct_LISTS, ct_BLOCKS, ct_ACCESS_BITS, ct_MOST_EXPONENTS, ct_RULES, ct_MEMORY_EFFECTS, ct_PLAIN_EFFECTS, ct_LOOSENING, ct_UNKNOWN, f29, f30, f27, f28, f26, f32, f34, f35, f33, f1, f2, f3, f4, f5, f10, f11, f12, f13, f14, f15, f16, f17, f18, f19, f20, cC_Module, cC_Scope, cC_Level, cC_KindStack, cC_Walker, ce_Module_signatures, ce_Module_imports, ce_Module_functions, ce_Module_tables, ce_Module_memories, ce_Module_tags, ce_Module_variables, ce_Module_exports, ce_Module_table_segments, ce_Module_memory_segments, cq_MEMORY_EFFECTS_0, cq_MEMORY_EFFECTS_1, cq_MEMORY_EFFECTS_2, cq_MEMORY_EFFECTS_3, cq_PLAIN_EFFECTS_0, cq_PLAIN_EFFECTS_1, cq_PLAIN_EFFECTS_2, cq_PLAIN_EFFECTS_3, cq_PLAIN_EFFECTS_4⟩ : Cs)) "label" "Scope.label" s_Scope_label ["self", "index"] := ⟨_, _, F54, ⟨am54, im54, k54⟩, F54.binds (ps := ["self", "index"]) fun _ _ _ _ _ _ us hl => match us, hl with | [_, _], _ => rfl⟩
  have F55 := fun_mk (st := s_Scope_shape) l55 c55 k55
  have D_Scope_shape : DefM K (Cs.C_Scope (⟨cC_HostError, cC_CodeFault, cI_CodeFault, (PySem.W.fnOf "__init__" "CodeFault.__init__" (defArgs i_CodeFault) (defBody i_CodeFault) (defScope i_CodeFault) .none kVI_CodeFault dcI_CodeFault pmI_CodeFault anI_CodeFault cdI_CodeFault ctI_CodeFault), ct_LISTS, ct_BLOCKS, ct_ACCESS_BITS, ct_MOST_EXPONENTS, ct_RULES, ct_MEMORY_EFFECTS, ct_PLAIN_EFFECTS, ct_LOOSENING, ct_UNKNOWN, f29, f30, f27, f28, f26, f32, f34, f35, f33, f1, f2, f3, f4, f5, f10, f11, f12, f13, f14, f15, f16, f17, f18, f19, f20, cC_Module, cC_Scope, cC_Level, cC_KindStack, cC_Walker, ce_Module_signatures, ce_Module_imports, ce_Module_functions, ce_Module_tables, ce_Module_memories, ce_Module_tags, ce_Module_variables, ce_Module_exports, ce_Module_table_segments, ce_Module_memory_segments, cq_MEMORY_EFFECTS_0, cq_MEMORY_EFFECTS_1, cq_MEMORY_EFFECTS_2, cq_MEMORY_EFFECTS_3, cq_PLAIN_EFFECTS_0, cq_PLAIN_EFFECTS_1, cq_PLAIN_EFFECTS_2, cq_PLAIN_EFFECTS_3, cq_PLAIN_EFFECTS_4⟩ : Cs)) "shape" "Scope.shape" s_Scope_shape ["self", "shape"] := ⟨_, _, F55, ⟨am55, im55, k55⟩, F55.binds (ps := ["self", "shape"]) fun _ _ _ _ _ _ us hl => match us, hl with | [_, _], _ => rfl⟩
  have F56 := fun_mk (st := s_Scope_need_table) l56 c56 k56
  have D_Scope_need_table : DefM K (Cs.C_Scope (⟨cC_HostError, cC_CodeFault, cI_CodeFault, (PySem.W.fnOf "__init__" "CodeFault.__init__" (defArgs i_CodeFault) (defBody i_CodeFault) (defScope i_CodeFault) .none kVI_CodeFault dcI_CodeFault pmI_CodeFault anI_CodeFault cdI_CodeFault ctI_CodeFault), ct_LISTS, ct_BLOCKS, ct_ACCESS_BITS, ct_MOST_EXPONENTS, ct_RULES, ct_MEMORY_EFFECTS, ct_PLAIN_EFFECTS, ct_LOOSENING, ct_UNKNOWN, f29, f30, f27, f28, f26, f32, f34, f35, f33, f1, f2, f3, f4, f5, f10, f11, f12, f13, f14, f15, f16, f17, f18, f19, f20, cC_Module, cC_Scope, cC_Level, cC_KindStack, cC_Walker, ce_Module_signatures, ce_Module_imports, ce_Module_functions, ce_Module_tables, ce_Module_memories, ce_Module_tags, ce_Module_variables, ce_Module_exports, ce_Module_table_segments, ce_Module_memory_segments, cq_MEMORY_EFFECTS_0, cq_MEMORY_EFFECTS_1, cq_MEMORY_EFFECTS_2, cq_MEMORY_EFFECTS_3, cq_PLAIN_EFFECTS_0, cq_PLAIN_EFFECTS_1, cq_PLAIN_EFFECTS_2, cq_PLAIN_EFFECTS_3, cq_PLAIN_EFFECTS_4⟩ : Cs)) "need_table" "Scope.need_table" s_Scope_need_table ["self", "index"] := ⟨_, _, F56, ⟨am56, im56, k56⟩, F56.binds (ps := ["self", "index"]) fun _ _ _ _ _ _ us hl => match us, hl with | [_, _], _ => rfl⟩
  have F57 := fun_mk (st := s_Scope_need_memory) l57 c57 k57
  have D_Scope_need_memory : DefM K (Cs.C_Scope (⟨cC_HostError, cC_CodeFault, cI_CodeFault, (PySem.W.fnOf "__init__" "CodeFault.__init__" (defArgs i_CodeFault) (defBody i_CodeFault) (defScope i_CodeFault) .none kVI_CodeFault dcI_CodeFault pmI_CodeFault anI_CodeFault cdI_CodeFault ctI_CodeFault), ct_LISTS, ct_BLOCKS, ct_ACCESS_BITS, ct_MOST_EXPONENTS, ct_RULES, ct_MEMORY_EFFECTS, ct_PLAIN_EFFECTS, ct_LOOSENING, ct_UNKNOWN, f29, f30, f27, f28, f26, f32, f34, f35, f33, f1, f2, f3, f4, f5, f10, f11, f12, f13, f14, f15, f16, f17, f18, f19, f20, cC_Module, cC_Scope, cC_Level, cC_KindStack, cC_Walker, ce_Module_signatures, ce_Module_imports, ce_Module_functions, ce_Module_tables, ce_Module_memories, ce_Module_tags, ce_Module_variables, ce_Module_exports, ce_Module_table_segments, ce_Module_memory_segments, cq_MEMORY_EFFECTS_0, cq_MEMORY_EFFECTS_1, cq_MEMORY_EFFECTS_2, cq_MEMORY_EFFECTS_3, cq_PLAIN_EFFECTS_0, cq_PLAIN_EFFECTS_1, cq_PLAIN_EFFECTS_2, cq_PLAIN_EFFECTS_3, cq_PLAIN_EFFECTS_4⟩ : Cs)) "need_memory" "Scope.need_memory" s_Scope_need_memory ["self"] := ⟨_, _, F57, ⟨am57, im57, k57⟩, F57.binds (ps := ["self"]) fun _ _ _ _ _ _ us hl => match us, hl with | [_], _ => rfl⟩
  have F58 := fun_mk (st := s_Level___init__) l58 c58 k58
  have D_Level___init__ : DefI K (Cs.C_Level (⟨cC_HostError, cC_CodeFault, cI_CodeFault, (PySem.W.fnOf "__init__" "CodeFault.__init__" (defArgs i_CodeFault) (defBody i_CodeFault) (defScope i_CodeFault) .none kVI_CodeFault dcI_CodeFault pmI_CodeFault anI_CodeFault cdI_CodeFault ctI_CodeFault), ct_LISTS, ct_BLOCKS, ct_ACCESS_BITS, ct_MOST_EXPONENTS, ct_RULES, ct_MEMORY_EFFECTS, ct_PLAIN_EFFECTS, ct_LOOSENING, ct_UNKNOWN, f29, f30, f27, f28, f26, f32, f34, f35, f33, f1, f2, f3, f4, f5, f10, f11, f12, f13, f14, f15, f16, f17, f18, f19, f20, cC_Module, cC_Scope, cC_Level, cC_KindStack, cC_Walker, ce_Module_signatures, ce_Module_imports, ce_Module_functions, ce_Module_tables, ce_Module_memories, ce_Module_tags, ce_Module_variables, ce_Module_exports, ce_Module_table_segments, ce_Module_memory_segments, cq_MEMORY_EFFECTS_0, cq_MEMORY_EFFECTS_1, cq_MEMORY_EFFECTS_2, cq_MEMORY_EFFECTS_3, cq_PLAIN_EFFECTS_0, cq_PLAIN_EFFECTS_1, cq_PLAIN_EFFECTS_2, cq_PLAIN_EFFECTS_3, cq_PLAIN_EFFECTS_4⟩ : Cs)) "Level.__init__" s_Level___init__ ["self", "floor", "buried"] := ⟨_, _, F58, ⟨mk_Level, am58, im58, kc_Level⟩, F58.binds (ps := ["self", "floor", "buried"]) fun _ _ _ _ _ _ us hl => match us, hl with | [_, _, _], _ => rfl⟩
  have F59 := fun_mk (st := s_KindStack___init__) l59 c59 k59
  have D_KindStack___init__ : DefI K (Cs.C_KindStack (⟨cC_HostError, cC_CodeFault, cI_CodeFault, (PySem.W.fnOf "__init__" "CodeFault.__init__" (defArgs i_CodeFault) (defBody i_CodeFault) (defScope i_CodeFault) .none kVI_CodeFault dcI_CodeFault pmI_CodeFault anI_CodeFault cdI_CodeFault ctI_CodeFault), ct_LISTS, ct_BLOCKS, ct_ACCESS_BITS, ct_MOST_EXPONENTS, ct_RULES, ct_MEMORY_EFFECTS, ct_PLAIN_EFFECTS, ct_LOOSENING, ct_UNKNOWN, f29, f30, f27, f28, f26, f32, f34, f35, f33, f1, f2, f3, f4, f5, f10, f11, f12, f13, f14, f15, f16, f17, f18, f19, f20, cC_Module, cC_Scope, cC_Level, cC_KindStack, cC_Walker, ce_Module_signatures, ce_Module_imports, ce_Module_functions, ce_Module_tables, ce_Module_memories, ce_Module_tags, ce_Module_variables, ce_Module_exports, ce_Module_table_segments, ce_Module_memory_segments, cq_MEMORY_EFFECTS_0, cq_MEMORY_EFFECTS_1, cq_MEMORY_EFFECTS_2, cq_MEMORY_EFFECTS_3, cq_PLAIN_EFFECTS_0, cq_PLAIN_EFFECTS_1, cq_PLAIN_EFFECTS_2, cq_PLAIN_EFFECTS_3, cq_PLAIN_EFFECTS_4⟩ : Cs)) "KindStack.__init__" s_KindStack___init__ ["self"] := ⟨_, _, F59, ⟨mk_KindStack, am59, im59, kc_KindStack⟩, F59.binds (ps := ["self"]) fun _ _ _ _ _ _ us hl => match us, hl with | [_], _ => rfl⟩
  have F60 := fun_mk (st := s_KindStack_is_dead) l60 c60 k60
  have D_KindStack_is_dead : DefM K (Cs.C_KindStack (⟨cC_HostError, cC_CodeFault, cI_CodeFault, (PySem.W.fnOf "__init__" "CodeFault.__init__" (defArgs i_CodeFault) (defBody i_CodeFault) (defScope i_CodeFault) .none kVI_CodeFault dcI_CodeFault pmI_CodeFault anI_CodeFault cdI_CodeFault ctI_CodeFault), ct_LISTS, ct_BLOCKS, ct_ACCESS_BITS, ct_MOST_EXPONENTS, ct_RULES, ct_MEMORY_EFFECTS, ct_PLAIN_EFFECTS, ct_LOOSENING, ct_UNKNOWN, f29, f30, f27, f28, f26, f32, f34, f35, f33, f1, f2, f3, f4, f5, f10, f11, f12, f13, f14, f15, f16, f17, f18, f19, f20, cC_Module, cC_Scope, cC_Level, cC_KindStack, cC_Walker, ce_Module_signatures, ce_Module_imports, ce_Module_functions, ce_Module_tables, ce_Module_memories, ce_Module_tags, ce_Module_variables, ce_Module_exports, ce_Module_table_segments, ce_Module_memory_segments, cq_MEMORY_EFFECTS_0, cq_MEMORY_EFFECTS_1, cq_MEMORY_EFFECTS_2, cq_MEMORY_EFFECTS_3, cq_PLAIN_EFFECTS_0, cq_PLAIN_EFFECTS_1, cq_PLAIN_EFFECTS_2, cq_PLAIN_EFFECTS_3, cq_PLAIN_EFFECTS_4⟩ : Cs)) "is_dead" "KindStack.is_dead" s_KindStack_is_dead ["self"] := ⟨_, _, F60, ⟨am60, im60, k60⟩, F60.binds (ps := ["self"]) fun _ _ _ _ _ _ us hl => match us, hl with | [_], _ => rfl⟩
  have F61 := fun_mk (st := s_KindStack_shown) l61 c61 k61
  have D_KindStack_shown : DefM K (Cs.C_KindStack (⟨cC_HostError, cC_CodeFault, cI_CodeFault, (PySem.W.fnOf "__init__" "CodeFault.__init__" (defArgs i_CodeFault) (defBody i_CodeFault) (defScope i_CodeFault) .none kVI_CodeFault dcI_CodeFault pmI_CodeFault anI_CodeFault cdI_CodeFault ctI_CodeFault), ct_LISTS, ct_BLOCKS, ct_ACCESS_BITS, ct_MOST_EXPONENTS, ct_RULES, ct_MEMORY_EFFECTS, ct_PLAIN_EFFECTS, ct_LOOSENING, ct_UNKNOWN, f29, f30, f27, f28, f26, f32, f34, f35, f33, f1, f2, f3, f4, f5, f10, f11, f12, f13, f14, f15, f16, f17, f18, f19, f20, cC_Module, cC_Scope, cC_Level, cC_KindStack, cC_Walker, ce_Module_signatures, ce_Module_imports, ce_Module_functions, ce_Module_tables, ce_Module_memories, ce_Module_tags, ce_Module_variables, ce_Module_exports, ce_Module_table_segments, ce_Module_memory_segments, cq_MEMORY_EFFECTS_0, cq_MEMORY_EFFECTS_1, cq_MEMORY_EFFECTS_2, cq_MEMORY_EFFECTS_3, cq_PLAIN_EFFECTS_0, cq_PLAIN_EFFECTS_1, cq_PLAIN_EFFECTS_2, cq_PLAIN_EFFECTS_3, cq_PLAIN_EFFECTS_4⟩ : Cs)) "shown" "KindStack.shown" s_KindStack_shown ["self"] := ⟨_, _, F61, ⟨am61, im61, k61⟩, F61.binds (ps := ["self"]) fun _ _ _ _ _ _ us hl => match us, hl with | [_], _ => rfl⟩
  have F62 := fun_mk (st := s_KindStack_put) l62 c62 k62
  have D_KindStack_put : DefM K (Cs.C_KindStack (⟨cC_HostError, cC_CodeFault, cI_CodeFault, (PySem.W.fnOf "__init__" "CodeFault.__init__" (defArgs i_CodeFault) (defBody i_CodeFault) (defScope i_CodeFault) .none kVI_CodeFault dcI_CodeFault pmI_CodeFault anI_CodeFault cdI_CodeFault ctI_CodeFault), ct_LISTS, ct_BLOCKS, ct_ACCESS_BITS, ct_MOST_EXPONENTS, ct_RULES, ct_MEMORY_EFFECTS, ct_PLAIN_EFFECTS, ct_LOOSENING, ct_UNKNOWN, f29, f30, f27, f28, f26, f32, f34, f35, f33, f1, f2, f3, f4, f5, f10, f11, f12, f13, f14, f15, f16, f17, f18, f19, f20, cC_Module, cC_Scope, cC_Level, cC_KindStack, cC_Walker, ce_Module_signatures, ce_Module_imports, ce_Module_functions, ce_Module_tables, ce_Module_memories, ce_Module_tags, ce_Module_variables, ce_Module_exports, ce_Module_table_segments, ce_Module_memory_segments, cq_MEMORY_EFFECTS_0, cq_MEMORY_EFFECTS_1, cq_MEMORY_EFFECTS_2, cq_MEMORY_EFFECTS_3, cq_PLAIN_EFFECTS_0, cq_PLAIN_EFFECTS_1, cq_PLAIN_EFFECTS_2, cq_PLAIN_EFFECTS_3, cq_PLAIN_EFFECTS_4⟩ : Cs)) "put" "KindStack.put" s_KindStack_put ["self", "kinds"] := ⟨_, _, F62, ⟨am62, im62, k62⟩, F62.binds (ps := ["self", "kinds"]) fun _ _ _ _ _ _ us hl => match us, hl with | [_, _], _ => rfl⟩
  have F63 := fun_mk (st := s_KindStack_need) l63 c63 k63
  have D_KindStack_need : DefM K (Cs.C_KindStack (⟨cC_HostError, cC_CodeFault, cI_CodeFault, (PySem.W.fnOf "__init__" "CodeFault.__init__" (defArgs i_CodeFault) (defBody i_CodeFault) (defScope i_CodeFault) .none kVI_CodeFault dcI_CodeFault pmI_CodeFault anI_CodeFault cdI_CodeFault ctI_CodeFault), ct_LISTS, ct_BLOCKS, ct_ACCESS_BITS, ct_MOST_EXPONENTS, ct_RULES, ct_MEMORY_EFFECTS, ct_PLAIN_EFFECTS, ct_LOOSENING, ct_UNKNOWN, f29, f30, f27, f28, f26, f32, f34, f35, f33, f1, f2, f3, f4, f5, f10, f11, f12, f13, f14, f15, f16, f17, f18, f19, f20, cC_Module, cC_Scope, cC_Level, cC_KindStack, cC_Walker, ce_Module_signatures, ce_Module_imports, ce_Module_functions, ce_Module_tables, ce_Module_memories, ce_Module_tags, ce_Module_variables, ce_Module_exports, ce_Module_table_segments, ce_Module_memory_segments, cq_MEMORY_EFFECTS_0, cq_MEMORY_EFFECTS_1, cq_MEMORY_EFFECTS_2, cq_MEMORY_EFFECTS_3, cq_PLAIN_EFFECTS_0, cq_PLAIN_EFFECTS_1, cq_PLAIN_EFFECTS_2, cq_PLAIN_EFFECTS_3, cq_PLAIN_EFFECTS_4⟩ : Cs)) "need" "KindStack.need" s_KindStack_need ["self", "kinds"] := ⟨_, _, F63, ⟨am63, im63, k63⟩, F63.binds (ps := ["self", "kinds"]) fun _ _ _ _ _ _ us hl => match us, hl with | [_, _], _ => rfl⟩
  have F64 := fun_mk (st := s_KindStack_take) l64 c64 k64
  have D_KindStack_take : DefM K (Cs.C_KindStack (⟨cC_HostError, cC_CodeFault, cI_CodeFault, (PySem.W.fnOf "__init__" "CodeFault.__init__" (defArgs i_CodeFault) (defBody i_CodeFault) (defScope i_CodeFault) .none kVI_CodeFault dcI_CodeFault pmI_CodeFault anI_CodeFault cdI_CodeFault ctI_CodeFault), ct_LISTS, ct_BLOCKS, ct_ACCESS_BITS, ct_MOST_EXPONENTS, ct_RULES, ct_MEMORY_EFFECTS, ct_PLAIN_EFFECTS, ct_LOOSENING, ct_UNKNOWN, f29, f30, f27, f28, f26, f32, f34, f35, f33, f1, f2, f3, f4, f5, f10, f11, f12, f13, f14, f15, f16, f17, f18, f19, f20, cC_Module, cC_Scope, cC_Level, cC_KindStack, cC_Walker, ce_Module_signatures, ce_Module_imports, ce_Module_functions, ce_Module_tables, ce_Module_memories, ce_Module_tags, ce_Module_variables, ce_Module_exports, ce_Module_table_segments, ce_Module_memory_segments, cq_MEMORY_EFFECTS_0, cq_MEMORY_EFFECTS_1, cq_MEMORY_EFFECTS_2, cq_MEMORY_EFFECTS_3, cq_PLAIN_EFFECTS_0, cq_PLAIN_EFFECTS_1, cq_PLAIN_EFFECTS_2, cq_PLAIN_EFFECTS_3, cq_PLAIN_EFFECTS_4⟩ : Cs)) "take" "KindStack.take" s_KindStack_take ["self", "kinds"] := ⟨_, _, F64, ⟨am64, im64, k64⟩, F64.binds (ps := ["self", "kinds"]) fun _ _ _ _ _ _ us hl => match us, hl with | [_, _], _ => rfl⟩
  have F65 := fun_mk (st := s_KindStack_take_any) l65 c65 k65
  have D_KindStack_take_any : DefM K (Cs.C_KindStack (⟨cC_HostError, cC_CodeFault, cI_CodeFault, (PySem.W.fnOf "__init__" "CodeFault.__init__" (defArgs i_CodeFault) (defBody i_CodeFault) (defScope i_CodeFault) .none kVI_CodeFault dcI_CodeFault pmI_CodeFault anI_CodeFault cdI_CodeFault ctI_CodeFault), ct_LISTS, ct_BLOCKS, ct_ACCESS_BITS, ct_MOST_EXPONENTS, ct_RULES, ct_MEMORY_EFFECTS, ct_PLAIN_EFFECTS, ct_LOOSENING, ct_UNKNOWN, f29, f30, f27, f28, f26, f32, f34, f35, f33, f1, f2, f3, f4, f5, f10, f11, f12, f13, f14, f15, f16, f17, f18, f19, f20, cC_Module, cC_Scope, cC_Level, cC_KindStack, cC_Walker, ce_Module_signatures, ce_Module_imports, ce_Module_functions, ce_Module_tables, ce_Module_memories, ce_Module_tags, ce_Module_variables, ce_Module_exports, ce_Module_table_segments, ce_Module_memory_segments, cq_MEMORY_EFFECTS_0, cq_MEMORY_EFFECTS_1, cq_MEMORY_EFFECTS_2, cq_MEMORY_EFFECTS_3, cq_PLAIN_EFFECTS_0, cq_PLAIN_EFFECTS_1, cq_PLAIN_EFFECTS_2, cq_PLAIN_EFFECTS_3, cq_PLAIN_EFFECTS_4⟩ : Cs)) "take_any" "KindStack.take_any" s_KindStack_take_any ["self"] := ⟨_, _, F65, ⟨am65, im65, k65⟩, F65.binds (ps := ["self"]) fun _ _ _ _ _ _ us hl => match us, hl with | [_], _ => rfl⟩
  have F66 := fun_mk (st := s_KindStack_loosen) l66 c66 k66
  have D_KindStack_loosen : DefM K (Cs.C_KindStack (⟨cC_HostError, cC_CodeFault, cI_CodeFault, (PySem.W.fnOf "__init__" "CodeFault.__init__" (defArgs i_CodeFault) (defBody i_CodeFault) (defScope i_CodeFault) .none kVI_CodeFault dcI_CodeFault pmI_CodeFault anI_CodeFault cdI_CodeFault ctI_CodeFault), ct_LISTS, ct_BLOCKS, ct_ACCESS_BITS, ct_MOST_EXPONENTS, ct_RULES, ct_MEMORY_EFFECTS, ct_PLAIN_EFFECTS, ct_LOOSENING, ct_UNKNOWN, f29, f30, f27, f28, f26, f32, f34, f35, f33, f1, f2, f3, f4, f5, f10, f11, f12, f13, f14, f15, f16, f17, f18, f19, f20, cC_Module, cC_Scope, cC_Level, cC_KindStack, cC_Walker, ce_Module_signatures, ce_Module_imports, ce_Module_functions, ce_Module_tables, ce_Module_memories, ce_Module_tags, ce_Module_variables, ce_Module_exports, ce_Module_table_segments, ce_Module_memory_segments, cq_MEMORY_EFFECTS_0, cq_MEMORY_EFFECTS_1, cq_MEMORY_EFFECTS_2, cq_MEMORY_EFFECTS_3, cq_PLAIN_EFFECTS_0, cq_PLAIN_EFFECTS_1, cq_PLAIN_EFFECTS_2, cq_PLAIN_EFFECTS_3, cq_PLAIN_EFFECTS_4⟩ : Cs)) "loosen" "KindStack.loosen" s_KindStack_loosen ["self"] := ⟨_, _, F66, ⟨am66, im66, k66⟩, F66.binds (ps := ["self"]) fun _ _ _ _ _ _ us hl => match us, hl with | [_], _ => rfl⟩
  have F67 := fun_mk (st := s_KindStack_enter) l67 c67 k67
  have D_KindStack_enter : DefM K (Cs.C_KindStack (⟨cC_HostError, cC_CodeFault, cI_CodeFault, (PySem.W.fnOf "__init__" "CodeFault.__init__" (defArgs i_CodeFault) (defBody i_CodeFault) (defScope i_CodeFault) .none kVI_CodeFault dcI_CodeFault pmI_CodeFault anI_CodeFault cdI_CodeFault ctI_CodeFault), ct_LISTS, ct_BLOCKS, ct_ACCESS_BITS, ct_MOST_EXPONENTS, ct_RULES, ct_MEMORY_EFFECTS, ct_PLAIN_EFFECTS, ct_LOOSENING, ct_UNKNOWN, f29, f30, f27, f28, f26, f32, f34, f35, f33, f1, f2, f3, f4, f5, f10, f11, f12, f13, f14, f15, f16, f17, f18, f19, f20, cC_Module, cC_Scope, cC_Level, cC_KindStack, cC_Walker, ce_Module_signatures, ce_Module_imports, ce_Module_functions, ce_Module_tables, ce_Module_memories, ce_Module_tags, ce_Module_variables, ce_Module_exports, ce_Module_table_segments, ce_Module_memory_segments, cq_MEMORY_EFFECTS_0, cq_MEMORY_EFFECTS_1, cq_MEMORY_EFFECTS_2, cq_MEMORY_EFFECTS_3, cq_PLAIN_EFFECTS_0, cq_PLAIN_EFFECTS_1, cq_PLAIN_EFFECTS_2, cq_PLAIN_EFFECTS_3, cq_PLAIN_EFFECTS_4⟩ : Cs)) "enter" "KindStack.enter" s_KindStack_enter ["self", "params"] := ⟨_, _, F67, ⟨am67, im67, k67⟩, F67.binds (ps := ["self", "params"]) fun _ _ _ _ _ _ us hl => match us, hl with | [_, _], _ => rfl⟩
  have F68 := fun_mk (st := s_KindStack_leave) l68 c68 k68
  have D_KindStack_leave : DefM K (Cs.C_KindStack (⟨cC_HostError, cC_CodeFault, cI_CodeFault, (PySem.W.fnOf "__init__" "CodeFault.__init__" (defArgs i_CodeFault) (defBody i_CodeFault) (defScope i_CodeFault) .none kVI_CodeFault dcI_CodeFault pmI_CodeFault anI_CodeFault cdI_CodeFault ctI_CodeFault), ct_LISTS, ct_BLOCKS, ct_ACCESS_BITS, ct_MOST_EXPONENTS, ct_RULES, ct_MEMORY_EFFECTS, ct_PLAIN_EFFECTS, ct_LOOSENING, ct_UNKNOWN, f29, f30, f27, f28, f26, f32, f34, f35, f33, f1, f2, f3, f4, f5, f10, f11, f12, f13, f14, f15, f16, f17, f18, f19, f20, cC_Module, cC_Scope, cC_Level, cC_KindStack, cC_Walker, ce_Module_signatures, ce_Module_imports, ce_Module_functions, ce_Module_tables, ce_Module_memories, ce_Module_tags, ce_Module_variables, ce_Module_exports, ce_Module_table_segments, ce_Module_memory_segments, cq_MEMORY_EFFECTS_0, cq_MEMORY_EFFECTS_1, cq_MEMORY_EFFECTS_2, cq_MEMORY_EFFECTS_3, cq_PLAIN_EFFECTS_0, cq_PLAIN_EFFECTS_1, cq_PLAIN_EFFECTS_2, cq_PLAIN_EFFECTS_3, cq_PLAIN_EFFECTS_4⟩ : Cs)) "leave" "KindStack.leave" s_KindStack_leave ["self", "results"] := ⟨_, _, F68, ⟨am68, im68, k68⟩, F68.binds (ps := ["self", "results"]) fun _ _ _ _ _ _ us hl => match us, hl with | [_, _], _ => rfl⟩
  have F69 := fun_mk (st := s_Walker___init__) l69 c69 k69
  have D_Walker___init__ : DefI K (Cs.C_Walker (⟨cC_HostError, cC_CodeFault, cI_CodeFault, (PySem.W.fnOf "__init__" "CodeFault.__init__" (defArgs i_CodeFault) (defBody i_CodeFault) (defScope i_CodeFault) .none kVI_CodeFault dcI_CodeFault pmI_CodeFault anI_CodeFault cdI_CodeFault ctI_CodeFault), ct_LISTS, ct_BLOCKS, ct_ACCESS_BITS, ct_MOST_EXPONENTS, ct_RULES, ct_MEMORY_EFFECTS, ct_PLAIN_EFFECTS, ct_LOOSENING, ct_UNKNOWN, f29, f30, f27, f28, f26, f32, f34, f35, f33, f1, f2, f3, f4, f5, f10, f11, f12, f13, f14, f15, f16, f17, f18, f19, f20, cC_Module, cC_Scope, cC_Level, cC_KindStack, cC_Walker, ce_Module_signatures, ce_Module_imports, ce_Module_functions, ce_Module_tables, ce_Module_memories, ce_Module_tags, ce_Module_variables, ce_Module_exports, ce_Module_table_segments, ce_Module_memory_segments, cq_MEMORY_EFFECTS_0, cq_MEMORY_EFFECTS_1, cq_MEMORY_EFFECTS_2, cq_MEMORY_EFFECTS_3, cq_PLAIN_EFFECTS_0, cq_PLAIN_EFFECTS_1, cq_PLAIN_EFFECTS_2, cq_PLAIN_EFFECTS_3, cq_PLAIN_EFFECTS_4⟩ : Cs)) "Walker.__init__" s_Walker___init__ ["self", "module", "signature", "own_kinds"] := ⟨_, _, F69, ⟨mk_Walker, am69, im69, kc_Walker⟩, F69.binds (ps := ["self", "module", "signature", "own_kinds"]) fun _ _ _ _ _ _ us hl => match us, hl with | [_, _, _, _], _ => rfl⟩
  have F70 := fun_mk (st := s_Walker_walk) l70 c70 k70
  have D_Walker_walk : DefM K (Cs.C_Walker (⟨cC_HostError, cC_CodeFault, cI_CodeFault, (PySem.W.fnOf "__init__" "CodeFault.__init__" (defArgs i_CodeFault) (defBody i_CodeFault) (defScope i_CodeFault) .none kVI_CodeFault dcI_CodeFault pmI_CodeFault anI_CodeFault cdI_CodeFault ctI_CodeFault), ct_LISTS, ct_BLOCKS, ct_ACCESS_BITS, ct_MOST_EXPONENTS, ct_RULES, ct_MEMORY_EFFECTS, ct_PLAIN_EFFECTS, ct_LOOSENING, ct_UNKNOWN, f29, f30, f27, f28, f26, f32, f34, f35, f33, f1, f2, f3, f4, f5, f10, f11, f12, f13, f14, f15, f16, f17, f18, f19, f20, cC_Module, cC_Scope, cC_Level, cC_KindStack, cC_Walker, ce_Module_signatures, ce_Module_imports, ce_Module_functions, ce_Module_tables, ce_Module_memories, ce_Module_tags, ce_Module_variables, ce_Module_exports, ce_Module_table_segments, ce_Module_memory_segments, cq_MEMORY_EFFECTS_0, cq_MEMORY_EFFECTS_1, cq_MEMORY_EFFECTS_2, cq_MEMORY_EFFECTS_3, cq_PLAIN_EFFECTS_0, cq_PLAIN_EFFECTS_1, cq_PLAIN_EFFECTS_2, cq_PLAIN_EFFECTS_3, cq_PLAIN_EFFECTS_4⟩ : Cs)) "walk" "Walker.walk" s_Walker_walk ["self", "body"] := ⟨_, _, F70, ⟨am70, im70, k70⟩, F70.binds (ps := ["self", "body"]) fun _ _ _ _ _ _ us hl => match us, hl with | [_, _], _ => rfl⟩
  have F71 := fun_mk (st := s_Walker_mark) l71 c71 k71
  have D_Walker_mark : DefM K (Cs.C_Walker (⟨cC_HostError, cC_CodeFault, cI_CodeFault, (PySem.W.fnOf "__init__" "CodeFault.__init__" (defArgs i_CodeFault) (defBody i_CodeFault) (defScope i_CodeFault) .none kVI_CodeFault dcI_CodeFault pmI_CodeFault anI_CodeFault cdI_CodeFault ctI_CodeFault), ct_LISTS, ct_BLOCKS, ct_ACCESS_BITS, ct_MOST_EXPONENTS, ct_RULES, ct_MEMORY_EFFECTS, ct_PLAIN_EFFECTS, ct_LOOSENING, ct_UNKNOWN, f29, f30, f27, f28, f26, f32, f34, f35, f33, f1, f2, f3, f4, f5, f10, f11, f12, f13, f14, f15, f16, f17, f18, f19, f20, cC_Module, cC_Scope, cC_Level, cC_KindStack, cC_Walker, ce_Module_signatures, ce_Module_imports, ce_Module_functions, ce_Module_tables, ce_Module_memories, ce_Module_tags, ce_Module_variables, ce_Module_exports, ce_Module_table_segments, ce_Module_memory_segments, cq_MEMORY_EFFECTS_0, cq_MEMORY_EFFECTS_1, cq_MEMORY_EFFECTS_2, cq_MEMORY_EFFECTS_3, cq_PLAIN_EFFECTS_0, cq_PLAIN_EFFECTS_1, cq_PLAIN_EFFECTS_2, cq_PLAIN_EFFECTS_3, cq_PLAIN_EFFECTS_4⟩ : Cs)) "mark" "Walker.mark" s_Walker_mark ["self"] := ⟨_, _, F71, ⟨am71, im71, k71⟩, F71.binds (ps := ["self"]) fun _ _ _ _ _ _ us hl => match us, hl with | [_], _ => rfl⟩
  have F72 := fun_mk (st := s_Walker_walk_body) l72 c72 k72
  have D_Walker_walk_body : DefM K (Cs.C_Walker (⟨cC_HostError, cC_CodeFault, cI_CodeFault, (PySem.W.fnOf "__init__" "CodeFault.__init__" (defArgs i_CodeFault) (defBody i_CodeFault) (defScope i_CodeFault) .none kVI_CodeFault dcI_CodeFault pmI_CodeFault anI_CodeFault cdI_CodeFault ctI_CodeFault), ct_LISTS, ct_BLOCKS, ct_ACCESS_BITS, ct_MOST_EXPONENTS, ct_RULES, ct_MEMORY_EFFECTS, ct_PLAIN_EFFECTS, ct_LOOSENING, ct_UNKNOWN, f29, f30, f27, f28, f26, f32, f34, f35, f33, f1, f2, f3, f4, f5, f10, f11, f12, f13, f14, f15, f16, f17, f18, f19, f20, cC_Module, cC_Scope, cC_Level, cC_KindStack, cC_Walker, ce_Module_signatures, ce_Module_imports, ce_Module_functions, ce_Module_tables, ce_Module_memories, ce_Module_tags, ce_Module_variables, ce_Module_exports, ce_Module_table_segments, ce_Module_memory_segments, cq_MEMORY_EFFECTS_0, cq_MEMORY_EFFECTS_1, cq_MEMORY_EFFECTS_2, cq_MEMORY_EFFECTS_3, cq_PLAIN_EFFECTS_0, cq_PLAIN_EFFECTS_1, cq_PLAIN_EFFECTS_2, cq_PLAIN_EFFECTS_3, cq_PLAIN_EFFECTS_4⟩ : Cs)) "walk_body" "Walker.walk_body" s_Walker_walk_body ["self", "body", "params", "results", "label"] := ⟨_, _, F72, ⟨am72, im72, k72⟩, F72.binds (ps := ["self", "body", "params", "results", "label"]) fun _ _ _ _ _ _ us hl => match us, hl with | [_, _, _, _, _], _ => rfl⟩
  have F73 := fun_mk (st := s_Walker_walk_instruction) l73 c73 k73
  have D_Walker_walk_instruction : DefM K (Cs.C_Walker (⟨cC_HostError, cC_CodeFault, cI_CodeFault, (PySem.W.fnOf "__init__" "CodeFault.__init__" (defArgs i_CodeFault) (defBody i_CodeFault) (defScope i_CodeFault) .none kVI_CodeFault dcI_CodeFault pmI_CodeFault anI_CodeFault cdI_CodeFault ctI_CodeFault), ct_LISTS, ct_BLOCKS, ct_ACCESS_BITS, ct_MOST_EXPONENTS, ct_RULES, ct_MEMORY_EFFECTS, ct_PLAIN_EFFECTS, ct_LOOSENING, ct_UNKNOWN, f29, f30, f27, f28, f26, f32, f34, f35, f33, f1, f2, f3, f4, f5, f10, f11, f12, f13, f14, f15, f16, f17, f18, f19, f20, cC_Module, cC_Scope, cC_Level, cC_KindStack, cC_Walker, ce_Module_signatures, ce_Module_imports, ce_Module_functions, ce_Module_tables, ce_Module_memories, ce_Module_tags, ce_Module_variables, ce_Module_exports, ce_Module_table_segments, ce_Module_memory_segments, cq_MEMORY_EFFECTS_0, cq_MEMORY_EFFECTS_1, cq_MEMORY_EFFECTS_2, cq_MEMORY_EFFECTS_3, cq_PLAIN_EFFECTS_0, cq_PLAIN_EFFECTS_1, cq_PLAIN_EFFECTS_2, cq_PLAIN_EFFECTS_3, cq_PLAIN_EFFECTS_4⟩ : Cs)) "walk_instruction" "Walker.walk_instruction" s_Walker_walk_instruction ["self", "instruction"] := ⟨_, _, F73, ⟨am73, im73, k73⟩, F73.binds (ps := ["self", "instruction"]) fun _ _ _ _ _ _ us hl => match us, hl with | [_, _], _ => rfl⟩
  have F74 := fun_mk (st := s_Walker_choose) l74 c74 k74
  have D_Walker_choose : DefM K (Cs.C_Walker (⟨cC_HostError, cC_CodeFault, cI_CodeFault, (PySem.W.fnOf "__init__" "CodeFault.__init__" (defArgs i_CodeFault) (defBody i_CodeFault) (defScope i_CodeFault) .none kVI_CodeFault dcI_CodeFault pmI_CodeFault anI_CodeFault cdI_CodeFault ctI_CodeFault), ct_LISTS, ct_BLOCKS, ct_ACCESS_BITS, ct_MOST_EXPONENTS, ct_RULES, ct_MEMORY_EFFECTS, ct_PLAIN_EFFECTS, ct_LOOSENING, ct_UNKNOWN, f29, f30, f27, f28, f26, f32, f34, f35, f33, f1, f2, f3, f4, f5, f10, f11, f12, f13, f14, f15, f16, f17, f18, f19, f20, cC_Module, cC_Scope, cC_Level, cC_KindStack, cC_Walker, ce_Module_signatures, ce_Module_imports, ce_Module_functions, ce_Module_tables, ce_Module_memories, ce_Module_tags, ce_Module_variables, ce_Module_exports, ce_Module_table_segments, ce_Module_memory_segments, cq_MEMORY_EFFECTS_0, cq_MEMORY_EFFECTS_1, cq_MEMORY_EFFECTS_2, cq_MEMORY_EFFECTS_3, cq_PLAIN_EFFECTS_0, cq_PLAIN_EFFECTS_1, cq_PLAIN_EFFECTS_2, cq_PLAIN_EFFECTS_3, cq_PLAIN_EFFECTS_4⟩ : Cs)) "choose" "Walker.choose" s_Walker_choose ["self"] := ⟨_, _, F74, ⟨am74, im74, k74⟩, F74.binds (ps := ["self"]) fun _ _ _ _ _ _ us hl => match us, hl with | [_], _ => rfl⟩
  have F75 := fun_mk (st := s_Walker_branch_by_table) l75 c75 k75
  have D_Walker_branch_by_table : DefM K (Cs.C_Walker (⟨cC_HostError, cC_CodeFault, cI_CodeFault, (PySem.W.fnOf "__init__" "CodeFault.__init__" (defArgs i_CodeFault) (defBody i_CodeFault) (defScope i_CodeFault) .none kVI_CodeFault dcI_CodeFault pmI_CodeFault anI_CodeFault cdI_CodeFault ctI_CodeFault), ct_LISTS, ct_BLOCKS, ct_ACCESS_BITS, ct_MOST_EXPONENTS, ct_RULES, ct_MEMORY_EFFECTS, ct_PLAIN_EFFECTS, ct_LOOSENING, ct_UNKNOWN, f29, f30, f27, f28, f26, f32, f34, f35, f33, f1, f2, f3, f4, f5, f10, f11, f12, f13, f14, f15, f16, f17, f18, f19, f20, cC_Module, cC_Scope, cC_Level, cC_KindStack, cC_Walker, ce_Module_signatures, ce_Module_imports, ce_Module_functions, ce_Module_tables, ce_Module_memories, ce_Module_tags, ce_Module_variables, ce_Module_exports, ce_Module_table_segments, ce_Module_memory_segments, cq_MEMORY_EFFECTS_0, cq_MEMORY_EFFECTS_1, cq_MEMORY_EFFECTS_2, cq_MEMORY_EFFECTS_3, cq_PLAIN_EFFECTS_0, cq_PLAIN_EFFECTS_1, cq_PLAIN_EFFECTS_2, cq_PLAIN_EFFECTS_3, cq_PLAIN_EFFECTS_4⟩ : Cs)) "branch_by_table" "Walker.branch_by_table" s_Walker_branch_by_table ["self", "instruction"] := ⟨_, _, F75, ⟨am75, im75, k75⟩, F75.binds (ps := ["self", "instruction"]) fun _ _ _ _ _ _ us hl => match us, hl with | [_, _], _ => rfl⟩
  have F76 := fun_mk (st := s_Walker_check_catch) l76 c76 k76
  have D_Walker_check_catch : DefM K (Cs.C_Walker (⟨cC_HostError, cC_CodeFault, cI_CodeFault, (PySem.W.fnOf "__init__" "CodeFault.__init__" (defArgs i_CodeFault) (defBody i_CodeFault) (defScope i_CodeFault) .none kVI_CodeFault dcI_CodeFault pmI_CodeFault anI_CodeFault cdI_CodeFault ctI_CodeFault), ct_LISTS, ct_BLOCKS, ct_ACCESS_BITS, ct_MOST_EXPONENTS, ct_RULES, ct_MEMORY_EFFECTS, ct_PLAIN_EFFECTS, ct_LOOSENING, ct_UNKNOWN, f29, f30, f27, f28, f26, f32, f34, f35, f33, f1, f2, f3, f4, f5, f10, f11, f12, f13, f14, f15, f16, f17, f18, f19, f20, cC_Module, cC_Scope, cC_Level, cC_KindStack, cC_Walker, ce_Module_signatures, ce_Module_imports, ce_Module_functions, ce_Module_tables, ce_Module_memories, ce_Module_tags, ce_Module_variables, ce_Module_exports, ce_Module_table_segments, ce_Module_memory_segments, cq_MEMORY_EFFECTS_0, cq_MEMORY_EFFECTS_1, cq_MEMORY_EFFECTS_2, cq_MEMORY_EFFECTS_3, cq_PLAIN_EFFECTS_0, cq_PLAIN_EFFECTS_1, cq_PLAIN_EFFECTS_2, cq_PLAIN_EFFECTS_3, cq_PLAIN_EFFECTS_4⟩ : Cs)) "check_catch" "Walker.check_catch" s_Walker_check_catch ["self", "tag", "label"] := ⟨_, _, F76, ⟨am76, im76, k76⟩, F76.binds (ps := ["self", "tag", "label"]) fun _ _ _ _ _ _ us hl => match us, hl with | [_, _, _], _ => rfl⟩
  have F77 := fun_mk (st := s_Walker_walk_block) l77 c77 k77
  have D_Walker_walk_block : DefM K (Cs.C_Walker (⟨cC_HostError, cC_CodeFault, cI_CodeFault, (PySem.W.fnOf "__init__" "CodeFault.__init__" (defArgs i_CodeFault) (defBody i_CodeFault) (defScope i_CodeFault) .none kVI_CodeFault dcI_CodeFault pmI_CodeFault anI_CodeFault cdI_CodeFault ctI_CodeFault), ct_LISTS, ct_BLOCKS, ct_ACCESS_BITS, ct_MOST_EXPONENTS, ct_RULES, ct_MEMORY_EFFECTS, ct_PLAIN_EFFECTS, ct_LOOSENING, ct_UNKNOWN, f29, f30, f27, f28, f26, f32, f34, f35, f33, f1, f2, f3, f4, f5, f10, f11, f12, f13, f14, f15, f16, f17, f18, f19, f20, cC_Module, cC_Scope, cC_Level, cC_KindStack, cC_Walker, ce_Module_signatures, ce_Module_imports, ce_Module_functions, ce_Module_tables, ce_Module_memories, ce_Module_tags, ce_Module_variables, ce_Module_exports, ce_Module_table_segments, ce_Module_memory_segments, cq_MEMORY_EFFECTS_0, cq_MEMORY_EFFECTS_1, cq_MEMORY_EFFECTS_2, cq_MEMORY_EFFECTS_3, cq_PLAIN_EFFECTS_0, cq_PLAIN_EFFECTS_1, cq_PLAIN_EFFECTS_2, cq_PLAIN_EFFECTS_3, cq_PLAIN_EFFECTS_4⟩ : Cs)) "walk_block" "Walker.walk_block" s_Walker_walk_block ["self", "instruction"] := ⟨_, _, F77, ⟨am77, im77, k77⟩, F77.binds (ps := ["self", "instruction"]) fun _ _ _ _ _ _ us hl => match us, hl with | [_, _], _ => rfl⟩
  refine ⟨PySem.W.fnOf "law" "law" (defArgs s_law) (defBody s_law) (defScope s_law) .none kV46 dc46 pm46 an46 cd46 ct46, fun s v => .of_eq rfl, fun base _ _ => ?_⟩
  have C__law_state : Cal l.prog w K mg base CX0 1 "_law_state" (sp__law_state K (⟨cC_HostError, cC_CodeFault, cI_CodeFault, (PySem.W.fnOf "__init__" "CodeFault.__init__" (defArgs i_CodeFault) (defBody i_CodeFault) (defScope i_CodeFault) .none kVI_CodeFault dcI_CodeFault pmI_CodeFault anI_CodeFault cdI_CodeFault ctI_CodeFault), ct_LISTS, ct_BLOCKS, ct_ACCESS_BITS, ct_MOST_EXPONENTS, ct_RULES, ct_MEMORY_EFFECTS, ct_PLAIN_EFFECTS, ct_LOOSENING, ct_UNKNOWN, f29, f30, f27, f28, f26, f32, f34, f35, f33, f1, f2, f3, f4, f5, f10, f11, f12, f13, f14, f15, f16, f17, f18, f19, f20, cC_Module, cC_Scope, cC_Level, cC_KindStack, cC_Walker, ce_Module_signatures, ce_Module_imports, ce_Module_functions, ce_Module_tables, ce_Module_memories, ce_Module_tags, ce_Module_variables, ce_Module_exports, ce_Module_table_segments, ce_Module_memory_segments, cq_MEMORY_EFFECTS_0, cq_MEMORY_EFFECTS_1, cq_MEMORY_EFFECTS_2, cq_MEMORY_EFFECTS_3, cq_PLAIN_EFFECTS_0, cq_PLAIN_EFFECTS_1, cq_PLAIN_EFFECTS_2, cq_PLAIN_EFFECTS_3, cq_PLAIN_EFFECTS_4⟩ : Cs)) := c__law_state D__law_state T 
  have C__law_draw : Cal l.prog w K mg base CX0 1 "_law_draw" (sp__law_draw K (⟨cC_HostError, cC_CodeFault, cI_CodeFault, (PySem.W.fnOf "__init__" "CodeFault.__init__" (defArgs i_CodeFault) (defBody i_CodeFault) (defScope i_CodeFault) .none kVI_CodeFault dcI_CodeFault pmI_CodeFault anI_CodeFault cdI_CodeFault ctI_CodeFault), ct_LISTS, ct_BLOCKS, ct_ACCESS_BITS, ct_MOST_EXPONENTS, ct_RULES, ct_MEMORY_EFFECTS, ct_PLAIN_EFFECTS, ct_LOOSENING, ct_UNKNOWN, f29, f30, f27, f28, f26, f32, f34, f35, f33, f1, f2, f3, f4, f5, f10, f11, f12, f13, f14, f15, f16, f17, f18, f19, f20, cC_Module, cC_Scope, cC_Level, cC_KindStack, cC_Walker, ce_Module_signatures, ce_Module_imports, ce_Module_functions, ce_Module_tables, ce_Module_memories, ce_Module_tags, ce_Module_variables, ce_Module_exports, ce_Module_table_segments, ce_Module_memory_segments, cq_MEMORY_EFFECTS_0, cq_MEMORY_EFFECTS_1, cq_MEMORY_EFFECTS_2, cq_MEMORY_EFFECTS_3, cq_PLAIN_EFFECTS_0, cq_PLAIN_EFFECTS_1, cq_PLAIN_EFFECTS_2, cq_PLAIN_EFFECTS_3, cq_PLAIN_EFFECTS_4⟩ : Cs)) := c__law_draw D__law_draw T 
  have C__law_access : Cal l.prog w K mg base CX0 1 "_law_access" (sp__law_access K (⟨cC_HostError, cC_CodeFault, cI_CodeFault, (PySem.W.fnOf "__init__" "CodeFault.__init__" (defArgs i_CodeFault) (defBody i_CodeFault) (defScope i_CodeFault) .none kVI_CodeFault dcI_CodeFault pmI_CodeFault anI_CodeFault cdI_CodeFault ctI_CodeFault), ct_LISTS, ct_BLOCKS, ct_ACCESS_BITS, ct_MOST_EXPONENTS, ct_RULES, ct_MEMORY_EFFECTS, ct_PLAIN_EFFECTS, ct_LOOSENING, ct_UNKNOWN, f29, f30, f27, f28, f26, f32, f34, f35, f33, f1, f2, f3, f4, f5, f10, f11, f12, f13, f14, f15, f16, f17, f18, f19, f20, cC_Module, cC_Scope, cC_Level, cC_KindStack, cC_Walker, ce_Module_signatures, ce_Module_imports, ce_Module_functions, ce_Module_tables, ce_Module_memories, ce_Module_tags, ce_Module_variables, ce_Module_exports, ce_Module_table_segments, ce_Module_memory_segments, cq_MEMORY_EFFECTS_0, cq_MEMORY_EFFECTS_1, cq_MEMORY_EFFECTS_2, cq_MEMORY_EFFECTS_3, cq_PLAIN_EFFECTS_0, cq_PLAIN_EFFECTS_1, cq_PLAIN_EFFECTS_2, cq_PLAIN_EFFECTS_3, cq_PLAIN_EFFECTS_4⟩ : Cs)) := c__law_access D__law_access T 
  have C__law_case : Cal l.prog w K mg base CX0 2 "_law_case" (sp__law_case K (⟨cC_HostError, cC_CodeFault, cI_CodeFault, (PySem.W.fnOf "__init__" "CodeFault.__init__" (defArgs i_CodeFault) (defBody i_CodeFault) (defScope i_CodeFault) .none kVI_CodeFault dcI_CodeFault pmI_CodeFault anI_CodeFault cdI_CodeFault ctI_CodeFault), ct_LISTS, ct_BLOCKS, ct_ACCESS_BITS, ct_MOST_EXPONENTS, ct_RULES, ct_MEMORY_EFFECTS, ct_PLAIN_EFFECTS, ct_LOOSENING, ct_UNKNOWN, f29, f30, f27, f28, f26, f32, f34, f35, f33, f1, f2, f3, f4, f5, f10, f11, f12, f13, f14, f15, f16, f17, f18, f19, f20, cC_Module, cC_Scope, cC_Level, cC_KindStack, cC_Walker, ce_Module_signatures, ce_Module_imports, ce_Module_functions, ce_Module_tables, ce_Module_memories, ce_Module_tags, ce_Module_variables, ce_Module_exports, ce_Module_table_segments, ce_Module_memory_segments, cq_MEMORY_EFFECTS_0, cq_MEMORY_EFFECTS_1, cq_MEMORY_EFFECTS_2, cq_MEMORY_EFFECTS_3, cq_PLAIN_EFFECTS_0, cq_PLAIN_EFFECTS_1, cq_PLAIN_EFFECTS_2, cq_PLAIN_EFFECTS_3, cq_PLAIN_EFFECTS_4⟩ : Cs)) := c__law_case D__law_case T C__law_draw C__law_access
  have C_Module___init__ : CalK l.prog w K mg base CX0 (Cs.C_Module (⟨cC_HostError, cC_CodeFault, cI_CodeFault, (PySem.W.fnOf "__init__" "CodeFault.__init__" (defArgs i_CodeFault) (defBody i_CodeFault) (defScope i_CodeFault) .none kVI_CodeFault dcI_CodeFault pmI_CodeFault anI_CodeFault cdI_CodeFault ctI_CodeFault), ct_LISTS, ct_BLOCKS, ct_ACCESS_BITS, ct_MOST_EXPONENTS, ct_RULES, ct_MEMORY_EFFECTS, ct_PLAIN_EFFECTS, ct_LOOSENING, ct_UNKNOWN, f29, f30, f27, f28, f26, f32, f34, f35, f33, f1, f2, f3, f4, f5, f10, f11, f12, f13, f14, f15, f16, f17, f18, f19, f20, cC_Module, cC_Scope, cC_Level, cC_KindStack, cC_Walker, ce_Module_signatures, ce_Module_imports, ce_Module_functions, ce_Module_tables, ce_Module_memories, ce_Module_tags, ce_Module_variables, ce_Module_exports, ce_Module_table_segments, ce_Module_memory_segments, cq_MEMORY_EFFECTS_0, cq_MEMORY_EFFECTS_1, cq_MEMORY_EFFECTS_2, cq_MEMORY_EFFECTS_3, cq_PLAIN_EFFECTS_0, cq_PLAIN_EFFECTS_1, cq_PLAIN_EFFECTS_2, cq_PLAIN_EFFECTS_3, cq_PLAIN_EFFECTS_4⟩ : Cs)) 1 (sp_Module___init__ K (⟨cC_HostError, cC_CodeFault, cI_CodeFault, (PySem.W.fnOf "__init__" "CodeFault.__init__" (defArgs i_CodeFault) (defBody i_CodeFault) (defScope i_CodeFault) .none kVI_CodeFault dcI_CodeFault pmI_CodeFault anI_CodeFault cdI_CodeFault ctI_CodeFault), ct_LISTS, ct_BLOCKS, ct_ACCESS_BITS, ct_MOST_EXPONENTS, ct_RULES, ct_MEMORY_EFFECTS, ct_PLAIN_EFFECTS, ct_LOOSENING, ct_UNKNOWN, f29, f30, f27, f28, f26, f32, f34, f35, f33, f1, f2, f3, f4, f5, f10, f11, f12, f13, f14, f15, f16, f17, f18, f19, f20, cC_Module, cC_Scope, cC_Level, cC_KindStack, cC_Walker, ce_Module_signatures, ce_Module_imports, ce_Module_functions, ce_Module_tables, ce_Module_memories, ce_Module_tags, ce_Module_variables, ce_Module_exports, ce_Module_table_segments, ce_Module_memory_segments, cq_MEMORY_EFFECTS_0, cq_MEMORY_EFFECTS_1, cq_MEMORY_EFFECTS_2, cq_MEMORY_EFFECTS_3, cq_PLAIN_EFFECTS_0, cq_PLAIN_EFFECTS_1, cq_PLAIN_EFFECTS_2, cq_PLAIN_EFFECTS_3, cq_PLAIN_EFFECTS_4⟩ : Cs)) ["signatures", "imports", "functions", "memories"] (fun vs zs => vs ++ mixK [true, true, true, false, true, false, false, false, false, false, false] zs ((ms_Module (⟨cC_HostError, cC_CodeFault, cI_CodeFault, (PySem.W.fnOf "__init__" "CodeFault.__init__" (defArgs i_CodeFault) (defBody i_CodeFault) (defScope i_CodeFault) .none kVI_CodeFault dcI_CodeFault pmI_CodeFault anI_CodeFault cdI_CodeFault ctI_CodeFault), ct_LISTS, ct_BLOCKS, ct_ACCESS_BITS, ct_MOST_EXPONENTS, ct_RULES, ct_MEMORY_EFFECTS, ct_PLAIN_EFFECTS, ct_LOOSENING, ct_UNKNOWN, f29, f30, f27, f28, f26, f32, f34, f35, f33, f1, f2, f3, f4, f5, f10, f11, f12, f13, f14, f15, f16, f17, f18, f19, f20, cC_Module, cC_Scope, cC_Level, cC_KindStack, cC_Walker, ce_Module_signatures, ce_Module_imports, ce_Module_functions, ce_Module_tables, ce_Module_memories, ce_Module_tags, ce_Module_variables, ce_Module_exports, ce_Module_table_segments, ce_Module_memory_segments, cq_MEMORY_EFFECTS_0, cq_MEMORY_EFFECTS_1, cq_MEMORY_EFFECTS_2, cq_MEMORY_EFFECTS_3, cq_PLAIN_EFFECTS_0, cq_PLAIN_EFFECTS_1, cq_PLAIN_EFFECTS_2, cq_PLAIN_EFFECTS_3, cq_PLAIN_EFFECTS_4⟩ : Cs)).map (·.2))) := c_Module___init__ D_Module___init__ T 
  have C_signature_reason : Cal l.prog w K mg base CX0 1 "signature_reason" (sp_signature_reason K (⟨cC_HostError, cC_CodeFault, cI_CodeFault, (PySem.W.fnOf "__init__" "CodeFault.__init__" (defArgs i_CodeFault) (defBody i_CodeFault) (defScope i_CodeFault) .none kVI_CodeFault dcI_CodeFault pmI_CodeFault anI_CodeFault cdI_CodeFault ctI_CodeFault), ct_LISTS, ct_BLOCKS, ct_ACCESS_BITS, ct_MOST_EXPONENTS, ct_RULES, ct_MEMORY_EFFECTS, ct_PLAIN_EFFECTS, ct_LOOSENING, ct_UNKNOWN, f29, f30, f27, f28, f26, f32, f34, f35, f33, f1, f2, f3, f4, f5, f10, f11, f12, f13, f14, f15, f16, f17, f18, f19, f20, cC_Module, cC_Scope, cC_Level, cC_KindStack, cC_Walker, ce_Module_signatures, ce_Module_imports, ce_Module_functions, ce_Module_tables, ce_Module_memories, ce_Module_tags, ce_Module_variables, ce_Module_exports, ce_Module_table_segments, ce_Module_memory_segments, cq_MEMORY_EFFECTS_0, cq_MEMORY_EFFECTS_1, cq_MEMORY_EFFECTS_2, cq_MEMORY_EFFECTS_3, cq_PLAIN_EFFECTS_0, cq_PLAIN_EFFECTS_1, cq_PLAIN_EFFECTS_2, cq_PLAIN_EFFECTS_3, cq_PLAIN_EFFECTS_4⟩ : Cs)) := c_signature_reason D_signature_reason T 
  have C_tag_reason : Cal l.prog w K mg base CX0 1 "tag_reason" (sp_tag_reason K (⟨cC_HostError, cC_CodeFault, cI_CodeFault, (PySem.W.fnOf "__init__" "CodeFault.__init__" (defArgs i_CodeFault) (defBody i_CodeFault) (defScope i_CodeFault) .none kVI_CodeFault dcI_CodeFault pmI_CodeFault anI_CodeFault cdI_CodeFault ctI_CodeFault), ct_LISTS, ct_BLOCKS, ct_ACCESS_BITS, ct_MOST_EXPONENTS, ct_RULES, ct_MEMORY_EFFECTS, ct_PLAIN_EFFECTS, ct_LOOSENING, ct_UNKNOWN, f29, f30, f27, f28, f26, f32, f34, f35, f33, f1, f2, f3, f4, f5, f10, f11, f12, f13, f14, f15, f16, f17, f18, f19, f20, cC_Module, cC_Scope, cC_Level, cC_KindStack, cC_Walker, ce_Module_signatures, ce_Module_imports, ce_Module_functions, ce_Module_tables, ce_Module_memories, ce_Module_tags, ce_Module_variables, ce_Module_exports, ce_Module_table_segments, ce_Module_memory_segments, cq_MEMORY_EFFECTS_0, cq_MEMORY_EFFECTS_1, cq_MEMORY_EFFECTS_2, cq_MEMORY_EFFECTS_3, cq_PLAIN_EFFECTS_0, cq_PLAIN_EFFECTS_1, cq_PLAIN_EFFECTS_2, cq_PLAIN_EFFECTS_3, cq_PLAIN_EFFECTS_4⟩ : Cs)) := c_tag_reason D_tag_reason T 
  have C_table_reason : Cal l.prog w K mg base CX0 1 "table_reason" (sp_table_reason K (⟨cC_HostError, cC_CodeFault, cI_CodeFault, (PySem.W.fnOf "__init__" "CodeFault.__init__" (defArgs i_CodeFault) (defBody i_CodeFault) (defScope i_CodeFault) .none kVI_CodeFault dcI_CodeFault pmI_CodeFault anI_CodeFault cdI_CodeFault ctI_CodeFault), ct_LISTS, ct_BLOCKS, ct_ACCESS_BITS, ct_MOST_EXPONENTS, ct_RULES, ct_MEMORY_EFFECTS, ct_PLAIN_EFFECTS, ct_LOOSENING, ct_UNKNOWN, f29, f30, f27, f28, f26, f32, f34, f35, f33, f1, f2, f3, f4, f5, f10, f11, f12, f13, f14, f15, f16, f17, f18, f19, f20, cC_Module, cC_Scope, cC_Level, cC_KindStack, cC_Walker, ce_Module_signatures, ce_Module_imports, ce_Module_functions, ce_Module_tables, ce_Module_memories, ce_Module_tags, ce_Module_variables, ce_Module_exports, ce_Module_table_segments, ce_Module_memory_segments, cq_MEMORY_EFFECTS_0, cq_MEMORY_EFFECTS_1, cq_MEMORY_EFFECTS_2, cq_MEMORY_EFFECTS_3, cq_PLAIN_EFFECTS_0, cq_PLAIN_EFFECTS_1, cq_PLAIN_EFFECTS_2, cq_PLAIN_EFFECTS_3, cq_PLAIN_EFFECTS_4⟩ : Cs)) := c_table_reason D_table_reason T 
  have C_memory_reason : Cal l.prog w K mg base CX0 2 "memory_reason" (sp_memory_reason K (⟨cC_HostError, cC_CodeFault, cI_CodeFault, (PySem.W.fnOf "__init__" "CodeFault.__init__" (defArgs i_CodeFault) (defBody i_CodeFault) (defScope i_CodeFault) .none kVI_CodeFault dcI_CodeFault pmI_CodeFault anI_CodeFault cdI_CodeFault ctI_CodeFault), ct_LISTS, ct_BLOCKS, ct_ACCESS_BITS, ct_MOST_EXPONENTS, ct_RULES, ct_MEMORY_EFFECTS, ct_PLAIN_EFFECTS, ct_LOOSENING, ct_UNKNOWN, f29, f30, f27, f28, f26, f32, f34, f35, f33, f1, f2, f3, f4, f5, f10, f11, f12, f13, f14, f15, f16, f17, f18, f19, f20, cC_Module, cC_Scope, cC_Level, cC_KindStack, cC_Walker, ce_Module_signatures, ce_Module_imports, ce_Module_functions, ce_Module_tables, ce_Module_memories, ce_Module_tags, ce_Module_variables, ce_Module_exports, ce_Module_table_segments, ce_Module_memory_segments, cq_MEMORY_EFFECTS_0, cq_MEMORY_EFFECTS_1, cq_MEMORY_EFFECTS_2, cq_MEMORY_EFFECTS_3, cq_PLAIN_EFFECTS_0, cq_PLAIN_EFFECTS_1, cq_PLAIN_EFFECTS_2, cq_PLAIN_EFFECTS_3, cq_PLAIN_EFFECTS_4⟩ : Cs)) := c_memory_reason D_memory_reason T C_table_reason
  have C_import_reason : Cal l.prog w K mg base CX0 3 "import_reason" (sp_import_reason K (⟨cC_HostError, cC_CodeFault, cI_CodeFault, (PySem.W.fnOf "__init__" "CodeFault.__init__" (defArgs i_CodeFault) (defBody i_CodeFault) (defScope i_CodeFault) .none kVI_CodeFault dcI_CodeFault pmI_CodeFault anI_CodeFault cdI_CodeFault ctI_CodeFault), ct_LISTS, ct_BLOCKS, ct_ACCESS_BITS, ct_MOST_EXPONENTS, ct_RULES, ct_MEMORY_EFFECTS, ct_PLAIN_EFFECTS, ct_LOOSENING, ct_UNKNOWN, f29, f30, f27, f28, f26, f32, f34, f35, f33, f1, f2, f3, f4, f5, f10, f11, f12, f13, f14, f15, f16, f17, f18, f19, f20, cC_Module, cC_Scope, cC_Level, cC_KindStack, cC_Walker, ce_Module_signatures, ce_Module_imports, ce_Module_functions, ce_Module_tables, ce_Module_memories, ce_Module_tags, ce_Module_variables, ce_Module_exports, ce_Module_table_segments, ce_Module_memory_segments, cq_MEMORY_EFFECTS_0, cq_MEMORY_EFFECTS_1, cq_MEMORY_EFFECTS_2, cq_MEMORY_EFFECTS_3, cq_PLAIN_EFFECTS_0, cq_PLAIN_EFFECTS_1, cq_PLAIN_EFFECTS_2, cq_PLAIN_EFFECTS_3, cq_PLAIN_EFFECTS_4⟩ : Cs)) := c_import_reason D_import_reason T C_signature_reason C_tag_reason C_table_reason C_memory_reason
  have C_function_reason : Cal l.prog w K mg base CX0 2 "function_reason" (sp_function_reason K (⟨cC_HostError, cC_CodeFault, cI_CodeFault, (PySem.W.fnOf "__init__" "CodeFault.__init__" (defArgs i_CodeFault) (defBody i_CodeFault) (defScope i_CodeFault) .none kVI_CodeFault dcI_CodeFault pmI_CodeFault anI_CodeFault cdI_CodeFault ctI_CodeFault), ct_LISTS, ct_BLOCKS, ct_ACCESS_BITS, ct_MOST_EXPONENTS, ct_RULES, ct_MEMORY_EFFECTS, ct_PLAIN_EFFECTS, ct_LOOSENING, ct_UNKNOWN, f29, f30, f27, f28, f26, f32, f34, f35, f33, f1, f2, f3, f4, f5, f10, f11, f12, f13, f14, f15, f16, f17, f18, f19, f20, cC_Module, cC_Scope, cC_Level, cC_KindStack, cC_Walker, ce_Module_signatures, ce_Module_imports, ce_Module_functions, ce_Module_tables, ce_Module_memories, ce_Module_tags, ce_Module_variables, ce_Module_exports, ce_Module_table_segments, ce_Module_memory_segments, cq_MEMORY_EFFECTS_0, cq_MEMORY_EFFECTS_1, cq_MEMORY_EFFECTS_2, cq_MEMORY_EFFECTS_3, cq_PLAIN_EFFECTS_0, cq_PLAIN_EFFECTS_1, cq_PLAIN_EFFECTS_2, cq_PLAIN_EFFECTS_3, cq_PLAIN_EFFECTS_4⟩ : Cs)) := c_function_reason D_function_reason T C_signature_reason
  have C_imported_items : Cal l.prog w K mg base CX0 1 "imported_items" (sp_imported_items K (⟨cC_HostError, cC_CodeFault, cI_CodeFault, (PySem.W.fnOf "__init__" "CodeFault.__init__" (defArgs i_CodeFault) (defBody i_CodeFault) (defScope i_CodeFault) .none kVI_CodeFault dcI_CodeFault pmI_CodeFault anI_CodeFault cdI_CodeFault ctI_CodeFault), ct_LISTS, ct_BLOCKS, ct_ACCESS_BITS, ct_MOST_EXPONENTS, ct_RULES, ct_MEMORY_EFFECTS, ct_PLAIN_EFFECTS, ct_LOOSENING, ct_UNKNOWN, f29, f30, f27, f28, f26, f32, f34, f35, f33, f1, f2, f3, f4, f5, f10, f11, f12, f13, f14, f15, f16, f17, f18, f19, f20, cC_Module, cC_Scope, cC_Level, cC_KindStack, cC_Walker, ce_Module_signatures, ce_Module_imports, ce_Module_functions, ce_Module_tables, ce_Module_memories, ce_Module_tags, ce_Module_variables, ce_Module_exports, ce_Module_table_segments, ce_Module_memory_segments, cq_MEMORY_EFFECTS_0, cq_MEMORY_EFFECTS_1, cq_MEMORY_EFFECTS_2, cq_MEMORY_EFFECTS_3, cq_PLAIN_EFFECTS_0, cq_PLAIN_EFFECTS_1, cq_PLAIN_EFFECTS_2, cq_PLAIN_EFFECTS_3, cq_PLAIN_EFFECTS_4⟩ : Cs)) := c_imported_items D_imported_items T 
  have C_constant_reason : Cal l.prog w K mg base CX0 2 "constant_reason" (sp_constant_reason K (⟨cC_HostError, cC_CodeFault, cI_CodeFault, (PySem.W.fnOf "__init__" "CodeFault.__init__" (defArgs i_CodeFault) (defBody i_CodeFault) (defScope i_CodeFault) .none kVI_CodeFault dcI_CodeFault pmI_CodeFault anI_CodeFault cdI_CodeFault ctI_CodeFault), ct_LISTS, ct_BLOCKS, ct_ACCESS_BITS, ct_MOST_EXPONENTS, ct_RULES, ct_MEMORY_EFFECTS, ct_PLAIN_EFFECTS, ct_LOOSENING, ct_UNKNOWN, f29, f30, f27, f28, f26, f32, f34, f35, f33, f1, f2, f3, f4, f5, f10, f11, f12, f13, f14, f15, f16, f17, f18, f19, f20, cC_Module, cC_Scope, cC_Level, cC_KindStack, cC_Walker, ce_Module_signatures, ce_Module_imports, ce_Module_functions, ce_Module_tables, ce_Module_memories, ce_Module_tags, ce_Module_variables, ce_Module_exports, ce_Module_table_segments, ce_Module_memory_segments, cq_MEMORY_EFFECTS_0, cq_MEMORY_EFFECTS_1, cq_MEMORY_EFFECTS_2, cq_MEMORY_EFFECTS_3, cq_PLAIN_EFFECTS_0, cq_PLAIN_EFFECTS_1, cq_PLAIN_EFFECTS_2, cq_PLAIN_EFFECTS_3, cq_PLAIN_EFFECTS_4⟩ : Cs)) := c_constant_reason D_constant_reason T C_imported_items
  have C_global_reason : Cal l.prog w K mg base CX0 3 "global_reason" (sp_global_reason K (⟨cC_HostError, cC_CodeFault, cI_CodeFault, (PySem.W.fnOf "__init__" "CodeFault.__init__" (defArgs i_CodeFault) (defBody i_CodeFault) (defScope i_CodeFault) .none kVI_CodeFault dcI_CodeFault pmI_CodeFault anI_CodeFault cdI_CodeFault ctI_CodeFault), ct_LISTS, ct_BLOCKS, ct_ACCESS_BITS, ct_MOST_EXPONENTS, ct_RULES, ct_MEMORY_EFFECTS, ct_PLAIN_EFFECTS, ct_LOOSENING, ct_UNKNOWN, f29, f30, f27, f28, f26, f32, f34, f35, f33, f1, f2, f3, f4, f5, f10, f11, f12, f13, f14, f15, f16, f17, f18, f19, f20, cC_Module, cC_Scope, cC_Level, cC_KindStack, cC_Walker, ce_Module_signatures, ce_Module_imports, ce_Module_functions, ce_Module_tables, ce_Module_memories, ce_Module_tags, ce_Module_variables, ce_Module_exports, ce_Module_table_segments, ce_Module_memory_segments, cq_MEMORY_EFFECTS_0, cq_MEMORY_EFFECTS_1, cq_MEMORY_EFFECTS_2, cq_MEMORY_EFFECTS_3, cq_PLAIN_EFFECTS_0, cq_PLAIN_EFFECTS_1, cq_PLAIN_EFFECTS_2, cq_PLAIN_EFFECTS_3, cq_PLAIN_EFFECTS_4⟩ : Cs)) := c_global_reason D_global_reason T C_constant_reason
  have C_first_fault : Cal l.prog w K mg base CX0 4 "first_fault" (sp_first_fault K (⟨cC_HostError, cC_CodeFault, cI_CodeFault, (PySem.W.fnOf "__init__" "CodeFault.__init__" (defArgs i_CodeFault) (defBody i_CodeFault) (defScope i_CodeFault) .none kVI_CodeFault dcI_CodeFault pmI_CodeFault anI_CodeFault cdI_CodeFault ctI_CodeFault), ct_LISTS, ct_BLOCKS, ct_ACCESS_BITS, ct_MOST_EXPONENTS, ct_RULES, ct_MEMORY_EFFECTS, ct_PLAIN_EFFECTS, ct_LOOSENING, ct_UNKNOWN, f29, f30, f27, f28, f26, f32, f34, f35, f33, f1, f2, f3, f4, f5, f10, f11, f12, f13, f14, f15, f16, f17, f18, f19, f20, cC_Module, cC_Scope, cC_Level, cC_KindStack, cC_Walker, ce_Module_signatures, ce_Module_imports, ce_Module_functions, ce_Module_tables, ce_Module_memories, ce_Module_tags, ce_Module_variables, ce_Module_exports, ce_Module_table_segments, ce_Module_memory_segments, cq_MEMORY_EFFECTS_0, cq_MEMORY_EFFECTS_1, cq_MEMORY_EFFECTS_2, cq_MEMORY_EFFECTS_3, cq_PLAIN_EFFECTS_0, cq_PLAIN_EFFECTS_1, cq_PLAIN_EFFECTS_2, cq_PLAIN_EFFECTS_3, cq_PLAIN_EFFECTS_4⟩ : Cs)) := c_first_fault D_first_fault T C_import_reason C_function_reason C_table_reason C_memory_reason C_tag_reason C_global_reason
  have C_function_signatures : Cal l.prog w K mg base CX0 2 "function_signatures" (sp_function_signatures K (⟨cC_HostError, cC_CodeFault, cI_CodeFault, (PySem.W.fnOf "__init__" "CodeFault.__init__" (defArgs i_CodeFault) (defBody i_CodeFault) (defScope i_CodeFault) .none kVI_CodeFault dcI_CodeFault pmI_CodeFault anI_CodeFault cdI_CodeFault ctI_CodeFault), ct_LISTS, ct_BLOCKS, ct_ACCESS_BITS, ct_MOST_EXPONENTS, ct_RULES, ct_MEMORY_EFFECTS, ct_PLAIN_EFFECTS, ct_LOOSENING, ct_UNKNOWN, f29, f30, f27, f28, f26, f32, f34, f35, f33, f1, f2, f3, f4, f5, f10, f11, f12, f13, f14, f15, f16, f17, f18, f19, f20, cC_Module, cC_Scope, cC_Level, cC_KindStack, cC_Walker, ce_Module_signatures, ce_Module_imports, ce_Module_functions, ce_Module_tables, ce_Module_memories, ce_Module_tags, ce_Module_variables, ce_Module_exports, ce_Module_table_segments, ce_Module_memory_segments, cq_MEMORY_EFFECTS_0, cq_MEMORY_EFFECTS_1, cq_MEMORY_EFFECTS_2, cq_MEMORY_EFFECTS_3, cq_PLAIN_EFFECTS_0, cq_PLAIN_EFFECTS_1, cq_PLAIN_EFFECTS_2, cq_PLAIN_EFFECTS_3, cq_PLAIN_EFFECTS_4⟩ : Cs)) := c_function_signatures D_function_signatures T C_imported_items
  have C_table_limits : Cal l.prog w K mg base CX0 2 "table_limits" (sp_table_limits K (⟨cC_HostError, cC_CodeFault, cI_CodeFault, (PySem.W.fnOf "__init__" "CodeFault.__init__" (defArgs i_CodeFault) (defBody i_CodeFault) (defScope i_CodeFault) .none kVI_CodeFault dcI_CodeFault pmI_CodeFault anI_CodeFault cdI_CodeFault ctI_CodeFault), ct_LISTS, ct_BLOCKS, ct_ACCESS_BITS, ct_MOST_EXPONENTS, ct_RULES, ct_MEMORY_EFFECTS, ct_PLAIN_EFFECTS, ct_LOOSENING, ct_UNKNOWN, f29, f30, f27, f28, f26, f32, f34, f35, f33, f1, f2, f3, f4, f5, f10, f11, f12, f13, f14, f15, f16, f17, f18, f19, f20, cC_Module, cC_Scope, cC_Level, cC_KindStack, cC_Walker, ce_Module_signatures, ce_Module_imports, ce_Module_functions, ce_Module_tables, ce_Module_memories, ce_Module_tags, ce_Module_variables, ce_Module_exports, ce_Module_table_segments, ce_Module_memory_segments, cq_MEMORY_EFFECTS_0, cq_MEMORY_EFFECTS_1, cq_MEMORY_EFFECTS_2, cq_MEMORY_EFFECTS_3, cq_PLAIN_EFFECTS_0, cq_PLAIN_EFFECTS_1, cq_PLAIN_EFFECTS_2, cq_PLAIN_EFFECTS_3, cq_PLAIN_EFFECTS_4⟩ : Cs)) := c_table_limits D_table_limits T C_imported_items
  have C_memory_limits : Cal l.prog w K mg base CX0 2 "memory_limits" (sp_memory_limits K (⟨cC_HostError, cC_CodeFault, cI_CodeFault, (PySem.W.fnOf "__init__" "CodeFault.__init__" (defArgs i_CodeFault) (defBody i_CodeFault) (defScope i_CodeFault) .none kVI_CodeFault dcI_CodeFault pmI_CodeFault anI_CodeFault cdI_CodeFault ctI_CodeFault), ct_LISTS, ct_BLOCKS, ct_ACCESS_BITS, ct_MOST_EXPONENTS, ct_RULES, ct_MEMORY_EFFECTS, ct_PLAIN_EFFECTS, ct_LOOSENING, ct_UNKNOWN, f29, f30, f27, f28, f26, f32, f34, f35, f33, f1, f2, f3, f4, f5, f10, f11, f12, f13, f14, f15, f16, f17, f18, f19, f20, cC_Module, cC_Scope, cC_Level, cC_KindStack, cC_Walker, ce_Module_signatures, ce_Module_imports, ce_Module_functions, ce_Module_tables, ce_Module_memories, ce_Module_tags, ce_Module_variables, ce_Module_exports, ce_Module_table_segments, ce_Module_memory_segments, cq_MEMORY_EFFECTS_0, cq_MEMORY_EFFECTS_1, cq_MEMORY_EFFECTS_2, cq_MEMORY_EFFECTS_3, cq_PLAIN_EFFECTS_0, cq_PLAIN_EFFECTS_1, cq_PLAIN_EFFECTS_2, cq_PLAIN_EFFECTS_3, cq_PLAIN_EFFECTS_4⟩ : Cs)) := c_memory_limits D_memory_limits T C_imported_items
  have C_global_heads : Cal l.prog w K mg base CX0 2 "global_heads" (sp_global_heads K (⟨cC_HostError, cC_CodeFault, cI_CodeFault, (PySem.W.fnOf "__init__" "CodeFault.__init__" (defArgs i_CodeFault) (defBody i_CodeFault) (defScope i_CodeFault) .none kVI_CodeFault dcI_CodeFault pmI_CodeFault anI_CodeFault cdI_CodeFault ctI_CodeFault), ct_LISTS, ct_BLOCKS, ct_ACCESS_BITS, ct_MOST_EXPONENTS, ct_RULES, ct_MEMORY_EFFECTS, ct_PLAIN_EFFECTS, ct_LOOSENING, ct_UNKNOWN, f29, f30, f27, f28, f26, f32, f34, f35, f33, f1, f2, f3, f4, f5, f10, f11, f12, f13, f14, f15, f16, f17, f18, f19, f20, cC_Module, cC_Scope, cC_Level, cC_KindStack, cC_Walker, ce_Module_signatures, ce_Module_imports, ce_Module_functions, ce_Module_tables, ce_Module_memories, ce_Module_tags, ce_Module_variables, ce_Module_exports, ce_Module_table_segments, ce_Module_memory_segments, cq_MEMORY_EFFECTS_0, cq_MEMORY_EFFECTS_1, cq_MEMORY_EFFECTS_2, cq_MEMORY_EFFECTS_3, cq_PLAIN_EFFECTS_0, cq_PLAIN_EFFECTS_1, cq_PLAIN_EFFECTS_2, cq_PLAIN_EFFECTS_3, cq_PLAIN_EFFECTS_4⟩ : Cs)) := c_global_heads D_global_heads T C_imported_items
  have C_tag_signatures : Cal l.prog w K mg base CX0 2 "tag_signatures" (sp_tag_signatures K (⟨cC_HostError, cC_CodeFault, cI_CodeFault, (PySem.W.fnOf "__init__" "CodeFault.__init__" (defArgs i_CodeFault) (defBody i_CodeFault) (defScope i_CodeFault) .none kVI_CodeFault dcI_CodeFault pmI_CodeFault anI_CodeFault cdI_CodeFault ctI_CodeFault), ct_LISTS, ct_BLOCKS, ct_ACCESS_BITS, ct_MOST_EXPONENTS, ct_RULES, ct_MEMORY_EFFECTS, ct_PLAIN_EFFECTS, ct_LOOSENING, ct_UNKNOWN, f29, f30, f27, f28, f26, f32, f34, f35, f33, f1, f2, f3, f4, f5, f10, f11, f12, f13, f14, f15, f16, f17, f18, f19, f20, cC_Module, cC_Scope, cC_Level, cC_KindStack, cC_Walker, ce_Module_signatures, ce_Module_imports, ce_Module_functions, ce_Module_tables, ce_Module_memories, ce_Module_tags, ce_Module_variables, ce_Module_exports, ce_Module_table_segments, ce_Module_memory_segments, cq_MEMORY_EFFECTS_0, cq_MEMORY_EFFECTS_1, cq_MEMORY_EFFECTS_2, cq_MEMORY_EFFECTS_3, cq_PLAIN_EFFECTS_0, cq_PLAIN_EFFECTS_1, cq_PLAIN_EFFECTS_2, cq_PLAIN_EFFECTS_3, cq_PLAIN_EFFECTS_4⟩ : Cs)) := c_tag_signatures D_tag_signatures T C_imported_items
  have C_all_items : Cal l.prog w K mg base CX0 3 "all_items" (sp_all_items K (⟨cC_HostError, cC_CodeFault, cI_CodeFault, (PySem.W.fnOf "__init__" "CodeFault.__init__" (defArgs i_CodeFault) (defBody i_CodeFault) (defScope i_CodeFault) .none kVI_CodeFault dcI_CodeFault pmI_CodeFault anI_CodeFault cdI_CodeFault ctI_CodeFault), ct_LISTS, ct_BLOCKS, ct_ACCESS_BITS, ct_MOST_EXPONENTS, ct_RULES, ct_MEMORY_EFFECTS, ct_PLAIN_EFFECTS, ct_LOOSENING, ct_UNKNOWN, f29, f30, f27, f28, f26, f32, f34, f35, f33, f1, f2, f3, f4, f5, f10, f11, f12, f13, f14, f15, f16, f17, f18, f19, f20, cC_Module, cC_Scope, cC_Level, cC_KindStack, cC_Walker, ce_Module_signatures, ce_Module_imports, ce_Module_functions, ce_Module_tables, ce_Module_memories, ce_Module_tags, ce_Module_variables, ce_Module_exports, ce_Module_table_segments, ce_Module_memory_segments, cq_MEMORY_EFFECTS_0, cq_MEMORY_EFFECTS_1, cq_MEMORY_EFFECTS_2, cq_MEMORY_EFFECTS_3, cq_PLAIN_EFFECTS_0, cq_PLAIN_EFFECTS_1, cq_PLAIN_EFFECTS_2, cq_PLAIN_EFFECTS_3, cq_PLAIN_EFFECTS_4⟩ : Cs)) := c_all_items D_all_items T C_function_signatures C_table_limits C_memory_limits C_global_heads C_tag_signatures
  have C_count_items : Cal l.prog w K mg base CX0 4 "count_items" (sp_count_items K (⟨cC_HostError, cC_CodeFault, cI_CodeFault, (PySem.W.fnOf "__init__" "CodeFault.__init__" (defArgs i_CodeFault) (defBody i_CodeFault) (defScope i_CodeFault) .none kVI_CodeFault dcI_CodeFault pmI_CodeFault anI_CodeFault cdI_CodeFault ctI_CodeFault), ct_LISTS, ct_BLOCKS, ct_ACCESS_BITS, ct_MOST_EXPONENTS, ct_RULES, ct_MEMORY_EFFECTS, ct_PLAIN_EFFECTS, ct_LOOSENING, ct_UNKNOWN, f29, f30, f27, f28, f26, f32, f34, f35, f33, f1, f2, f3, f4, f5, f10, f11, f12, f13, f14, f15, f16, f17, f18, f19, f20, cC_Module, cC_Scope, cC_Level, cC_KindStack, cC_Walker, ce_Module_signatures, ce_Module_imports, ce_Module_functions, ce_Module_tables, ce_Module_memories, ce_Module_tags, ce_Module_variables, ce_Module_exports, ce_Module_table_segments, ce_Module_memory_segments, cq_MEMORY_EFFECTS_0, cq_MEMORY_EFFECTS_1, cq_MEMORY_EFFECTS_2, cq_MEMORY_EFFECTS_3, cq_PLAIN_EFFECTS_0, cq_PLAIN_EFFECTS_1, cq_PLAIN_EFFECTS_2, cq_PLAIN_EFFECTS_3, cq_PLAIN_EFFECTS_4⟩ : Cs)) := c_count_items D_count_items T C_all_items
  have C_memory_count_fault : Cal l.prog w K mg base CX0 5 "memory_count_fault" (sp_memory_count_fault K (⟨cC_HostError, cC_CodeFault, cI_CodeFault, (PySem.W.fnOf "__init__" "CodeFault.__init__" (defArgs i_CodeFault) (defBody i_CodeFault) (defScope i_CodeFault) .none kVI_CodeFault dcI_CodeFault pmI_CodeFault anI_CodeFault cdI_CodeFault ctI_CodeFault), ct_LISTS, ct_BLOCKS, ct_ACCESS_BITS, ct_MOST_EXPONENTS, ct_RULES, ct_MEMORY_EFFECTS, ct_PLAIN_EFFECTS, ct_LOOSENING, ct_UNKNOWN, f29, f30, f27, f28, f26, f32, f34, f35, f33, f1, f2, f3, f4, f5, f10, f11, f12, f13, f14, f15, f16, f17, f18, f19, f20, cC_Module, cC_Scope, cC_Level, cC_KindStack, cC_Walker, ce_Module_signatures, ce_Module_imports, ce_Module_functions, ce_Module_tables, ce_Module_memories, ce_Module_tags, ce_Module_variables, ce_Module_exports, ce_Module_table_segments, ce_Module_memory_segments, cq_MEMORY_EFFECTS_0, cq_MEMORY_EFFECTS_1, cq_MEMORY_EFFECTS_2, cq_MEMORY_EFFECTS_3, cq_PLAIN_EFFECTS_0, cq_PLAIN_EFFECTS_1, cq_PLAIN_EFFECTS_2, cq_PLAIN_EFFECTS_3, cq_PLAIN_EFFECTS_4⟩ : Cs)) := c_memory_count_fault D_memory_count_fault T C_count_items
  have C_export_fault : Cal l.prog w K mg base CX0 1 "export_fault" (sp_export_fault K (⟨cC_HostError, cC_CodeFault, cI_CodeFault, (PySem.W.fnOf "__init__" "CodeFault.__init__" (defArgs i_CodeFault) (defBody i_CodeFault) (defScope i_CodeFault) .none kVI_CodeFault dcI_CodeFault pmI_CodeFault anI_CodeFault cdI_CodeFault ctI_CodeFault), ct_LISTS, ct_BLOCKS, ct_ACCESS_BITS, ct_MOST_EXPONENTS, ct_RULES, ct_MEMORY_EFFECTS, ct_PLAIN_EFFECTS, ct_LOOSENING, ct_UNKNOWN, f29, f30, f27, f28, f26, f32, f34, f35, f33, f1, f2, f3, f4, f5, f10, f11, f12, f13, f14, f15, f16, f17, f18, f19, f20, cC_Module, cC_Scope, cC_Level, cC_KindStack, cC_Walker, ce_Module_signatures, ce_Module_imports, ce_Module_functions, ce_Module_tables, ce_Module_memories, ce_Module_tags, ce_Module_variables, ce_Module_exports, ce_Module_table_segments, ce_Module_memory_segments, cq_MEMORY_EFFECTS_0, cq_MEMORY_EFFECTS_1, cq_MEMORY_EFFECTS_2, cq_MEMORY_EFFECTS_3, cq_PLAIN_EFFECTS_0, cq_PLAIN_EFFECTS_1, cq_PLAIN_EFFECTS_2, cq_PLAIN_EFFECTS_3, cq_PLAIN_EFFECTS_4⟩ : Cs)) := c_export_fault D_export_fault T 
  have C_start_fault : Cal l.prog w K mg base CX0 5 "start_fault" (sp_start_fault K (⟨cC_HostError, cC_CodeFault, cI_CodeFault, (PySem.W.fnOf "__init__" "CodeFault.__init__" (defArgs i_CodeFault) (defBody i_CodeFault) (defScope i_CodeFault) .none kVI_CodeFault dcI_CodeFault pmI_CodeFault anI_CodeFault cdI_CodeFault ctI_CodeFault), ct_LISTS, ct_BLOCKS, ct_ACCESS_BITS, ct_MOST_EXPONENTS, ct_RULES, ct_MEMORY_EFFECTS, ct_PLAIN_EFFECTS, ct_LOOSENING, ct_UNKNOWN, f29, f30, f27, f28, f26, f32, f34, f35, f33, f1, f2, f3, f4, f5, f10, f11, f12, f13, f14, f15, f16, f17, f18, f19, f20, cC_Module, cC_Scope, cC_Level, cC_KindStack, cC_Walker, ce_Module_signatures, ce_Module_imports, ce_Module_functions, ce_Module_tables, ce_Module_memories, ce_Module_tags, ce_Module_variables, ce_Module_exports, ce_Module_table_segments, ce_Module_memory_segments, cq_MEMORY_EFFECTS_0, cq_MEMORY_EFFECTS_1, cq_MEMORY_EFFECTS_2, cq_MEMORY_EFFECTS_3, cq_PLAIN_EFFECTS_0, cq_PLAIN_EFFECTS_1, cq_PLAIN_EFFECTS_2, cq_PLAIN_EFFECTS_3, cq_PLAIN_EFFECTS_4⟩ : Cs)) := c_start_fault D_start_fault T C_first_fault
  have C_Scope___init__ : CalI l.prog w K mg base CX0 (Cs.C_Scope (⟨cC_HostError, cC_CodeFault, cI_CodeFault, (PySem.W.fnOf "__init__" "CodeFault.__init__" (defArgs i_CodeFault) (defBody i_CodeFault) (defScope i_CodeFault) .none kVI_CodeFault dcI_CodeFault pmI_CodeFault anI_CodeFault cdI_CodeFault ctI_CodeFault), ct_LISTS, ct_BLOCKS, ct_ACCESS_BITS, ct_MOST_EXPONENTS, ct_RULES, ct_MEMORY_EFFECTS, ct_PLAIN_EFFECTS, ct_LOOSENING, ct_UNKNOWN, f29, f30, f27, f28, f26, f32, f34, f35, f33, f1, f2, f3, f4, f5, f10, f11, f12, f13, f14, f15, f16, f17, f18, f19, f20, cC_Module, cC_Scope, cC_Level, cC_KindStack, cC_Walker, ce_Module_signatures, ce_Module_imports, ce_Module_functions, ce_Module_tables, ce_Module_memories, ce_Module_tags, ce_Module_variables, ce_Module_exports, ce_Module_table_segments, ce_Module_memory_segments, cq_MEMORY_EFFECTS_0, cq_MEMORY_EFFECTS_1, cq_MEMORY_EFFECTS_2, cq_MEMORY_EFFECTS_3, cq_PLAIN_EFFECTS_0, cq_PLAIN_EFFECTS_1, cq_PLAIN_EFFECTS_2, cq_PLAIN_EFFECTS_3, cq_PLAIN_EFFECTS_4⟩ : Cs)) 3 (sp_Scope___init__ K (⟨cC_HostError, cC_CodeFault, cI_CodeFault, (PySem.W.fnOf "__init__" "CodeFault.__init__" (defArgs i_CodeFault) (defBody i_CodeFault) (defScope i_CodeFault) .none kVI_CodeFault dcI_CodeFault pmI_CodeFault anI_CodeFault cdI_CodeFault ctI_CodeFault), ct_LISTS, ct_BLOCKS, ct_ACCESS_BITS, ct_MOST_EXPONENTS, ct_RULES, ct_MEMORY_EFFECTS, ct_PLAIN_EFFECTS, ct_LOOSENING, ct_UNKNOWN, f29, f30, f27, f28, f26, f32, f34, f35, f33, f1, f2, f3, f4, f5, f10, f11, f12, f13, f14, f15, f16, f17, f18, f19, f20, cC_Module, cC_Scope, cC_Level, cC_KindStack, cC_Walker, ce_Module_signatures, ce_Module_imports, ce_Module_functions, ce_Module_tables, ce_Module_memories, ce_Module_tags, ce_Module_variables, ce_Module_exports, ce_Module_table_segments, ce_Module_memory_segments, cq_MEMORY_EFFECTS_0, cq_MEMORY_EFFECTS_1, cq_MEMORY_EFFECTS_2, cq_MEMORY_EFFECTS_3, cq_PLAIN_EFFECTS_0, cq_PLAIN_EFFECTS_1, cq_PLAIN_EFFECTS_2, cq_PLAIN_EFFECTS_3, cq_PLAIN_EFFECTS_4⟩ : Cs)) := c_Scope___init__ D_Scope___init__ T C_function_signatures C_tag_signatures C_global_heads C_table_limits C_memory_limits
  have C_KindStack___init__ : CalI l.prog w K mg base CX0 (Cs.C_KindStack (⟨cC_HostError, cC_CodeFault, cI_CodeFault, (PySem.W.fnOf "__init__" "CodeFault.__init__" (defArgs i_CodeFault) (defBody i_CodeFault) (defScope i_CodeFault) .none kVI_CodeFault dcI_CodeFault pmI_CodeFault anI_CodeFault cdI_CodeFault ctI_CodeFault), ct_LISTS, ct_BLOCKS, ct_ACCESS_BITS, ct_MOST_EXPONENTS, ct_RULES, ct_MEMORY_EFFECTS, ct_PLAIN_EFFECTS, ct_LOOSENING, ct_UNKNOWN, f29, f30, f27, f28, f26, f32, f34, f35, f33, f1, f2, f3, f4, f5, f10, f11, f12, f13, f14, f15, f16, f17, f18, f19, f20, cC_Module, cC_Scope, cC_Level, cC_KindStack, cC_Walker, ce_Module_signatures, ce_Module_imports, ce_Module_functions, ce_Module_tables, ce_Module_memories, ce_Module_tags, ce_Module_variables, ce_Module_exports, ce_Module_table_segments, ce_Module_memory_segments, cq_MEMORY_EFFECTS_0, cq_MEMORY_EFFECTS_1, cq_MEMORY_EFFECTS_2, cq_MEMORY_EFFECTS_3, cq_PLAIN_EFFECTS_0, cq_PLAIN_EFFECTS_1, cq_PLAIN_EFFECTS_2, cq_PLAIN_EFFECTS_3, cq_PLAIN_EFFECTS_4⟩ : Cs)) 1 (sp_KindStack___init__ K (⟨cC_HostError, cC_CodeFault, cI_CodeFault, (PySem.W.fnOf "__init__" "CodeFault.__init__" (defArgs i_CodeFault) (defBody i_CodeFault) (defScope i_CodeFault) .none kVI_CodeFault dcI_CodeFault pmI_CodeFault anI_CodeFault cdI_CodeFault ctI_CodeFault), ct_LISTS, ct_BLOCKS, ct_ACCESS_BITS, ct_MOST_EXPONENTS, ct_RULES, ct_MEMORY_EFFECTS, ct_PLAIN_EFFECTS, ct_LOOSENING, ct_UNKNOWN, f29, f30, f27, f28, f26, f32, f34, f35, f33, f1, f2, f3, f4, f5, f10, f11, f12, f13, f14, f15, f16, f17, f18, f19, f20, cC_Module, cC_Scope, cC_Level, cC_KindStack, cC_Walker, ce_Module_signatures, ce_Module_imports, ce_Module_functions, ce_Module_tables, ce_Module_memories, ce_Module_tags, ce_Module_variables, ce_Module_exports, ce_Module_table_segments, ce_Module_memory_segments, cq_MEMORY_EFFECTS_0, cq_MEMORY_EFFECTS_1, cq_MEMORY_EFFECTS_2, cq_MEMORY_EFFECTS_3, cq_PLAIN_EFFECTS_0, cq_PLAIN_EFFECTS_1, cq_PLAIN_EFFECTS_2, cq_PLAIN_EFFECTS_3, cq_PLAIN_EFFECTS_4⟩ : Cs)) := c_KindStack___init__ D_KindStack___init__ T 
  have C_Walker___init__ : CalI l.prog w K mg base CX0 (Cs.C_Walker (⟨cC_HostError, cC_CodeFault, cI_CodeFault, (PySem.W.fnOf "__init__" "CodeFault.__init__" (defArgs i_CodeFault) (defBody i_CodeFault) (defScope i_CodeFault) .none kVI_CodeFault dcI_CodeFault pmI_CodeFault anI_CodeFault cdI_CodeFault ctI_CodeFault), ct_LISTS, ct_BLOCKS, ct_ACCESS_BITS, ct_MOST_EXPONENTS, ct_RULES, ct_MEMORY_EFFECTS, ct_PLAIN_EFFECTS, ct_LOOSENING, ct_UNKNOWN, f29, f30, f27, f28, f26, f32, f34, f35, f33, f1, f2, f3, f4, f5, f10, f11, f12, f13, f14, f15, f16, f17, f18, f19, f20, cC_Module, cC_Scope, cC_Level, cC_KindStack, cC_Walker, ce_Module_signatures, ce_Module_imports, ce_Module_functions, ce_Module_tables, ce_Module_memories, ce_Module_tags, ce_Module_variables, ce_Module_exports, ce_Module_table_segments, ce_Module_memory_segments, cq_MEMORY_EFFECTS_0, cq_MEMORY_EFFECTS_1, cq_MEMORY_EFFECTS_2, cq_MEMORY_EFFECTS_3, cq_PLAIN_EFFECTS_0, cq_PLAIN_EFFECTS_1, cq_PLAIN_EFFECTS_2, cq_PLAIN_EFFECTS_3, cq_PLAIN_EFFECTS_4⟩ : Cs)) 5 (sp_Walker___init__ K (⟨cC_HostError, cC_CodeFault, cI_CodeFault, (PySem.W.fnOf "__init__" "CodeFault.__init__" (defArgs i_CodeFault) (defBody i_CodeFault) (defScope i_CodeFault) .none kVI_CodeFault dcI_CodeFault pmI_CodeFault anI_CodeFault cdI_CodeFault ctI_CodeFault), ct_LISTS, ct_BLOCKS, ct_ACCESS_BITS, ct_MOST_EXPONENTS, ct_RULES, ct_MEMORY_EFFECTS, ct_PLAIN_EFFECTS, ct_LOOSENING, ct_UNKNOWN, f29, f30, f27, f28, f26, f32, f34, f35, f33, f1, f2, f3, f4, f5, f10, f11, f12, f13, f14, f15, f16, f17, f18, f19, f20, cC_Module, cC_Scope, cC_Level, cC_KindStack, cC_Walker, ce_Module_signatures, ce_Module_imports, ce_Module_functions, ce_Module_tables, ce_Module_memories, ce_Module_tags, ce_Module_variables, ce_Module_exports, ce_Module_table_segments, ce_Module_memory_segments, cq_MEMORY_EFFECTS_0, cq_MEMORY_EFFECTS_1, cq_MEMORY_EFFECTS_2, cq_MEMORY_EFFECTS_3, cq_PLAIN_EFFECTS_0, cq_PLAIN_EFFECTS_1, cq_PLAIN_EFFECTS_2, cq_PLAIN_EFFECTS_3, cq_PLAIN_EFFECTS_4⟩ : Cs)) := c_Walker___init__ D_Walker___init__ T C_Scope___init__ C_KindStack___init__
  have C_KindStack_put : CalM l.prog w K mg base CX0 (Cs.C_KindStack (⟨cC_HostError, cC_CodeFault, cI_CodeFault, (PySem.W.fnOf "__init__" "CodeFault.__init__" (defArgs i_CodeFault) (defBody i_CodeFault) (defScope i_CodeFault) .none kVI_CodeFault dcI_CodeFault pmI_CodeFault anI_CodeFault cdI_CodeFault ctI_CodeFault), ct_LISTS, ct_BLOCKS, ct_ACCESS_BITS, ct_MOST_EXPONENTS, ct_RULES, ct_MEMORY_EFFECTS, ct_PLAIN_EFFECTS, ct_LOOSENING, ct_UNKNOWN, f29, f30, f27, f28, f26, f32, f34, f35, f33, f1, f2, f3, f4, f5, f10, f11, f12, f13, f14, f15, f16, f17, f18, f19, f20, cC_Module, cC_Scope, cC_Level, cC_KindStack, cC_Walker, ce_Module_signatures, ce_Module_imports, ce_Module_functions, ce_Module_tables, ce_Module_memories, ce_Module_tags, ce_Module_variables, ce_Module_exports, ce_Module_table_segments, ce_Module_memory_segments, cq_MEMORY_EFFECTS_0, cq_MEMORY_EFFECTS_1, cq_MEMORY_EFFECTS_2, cq_MEMORY_EFFECTS_3, cq_PLAIN_EFFECTS_0, cq_PLAIN_EFFECTS_1, cq_PLAIN_EFFECTS_2, cq_PLAIN_EFFECTS_3, cq_PLAIN_EFFECTS_4⟩ : Cs)) 1 "put" (sp_KindStack_put K (⟨cC_HostError, cC_CodeFault, cI_CodeFault, (PySem.W.fnOf "__init__" "CodeFault.__init__" (defArgs i_CodeFault) (defBody i_CodeFault) (defScope i_CodeFault) .none kVI_CodeFault dcI_CodeFault pmI_CodeFault anI_CodeFault cdI_CodeFault ctI_CodeFault), ct_LISTS, ct_BLOCKS, ct_ACCESS_BITS, ct_MOST_EXPONENTS, ct_RULES, ct_MEMORY_EFFECTS, ct_PLAIN_EFFECTS, ct_LOOSENING, ct_UNKNOWN, f29, f30, f27, f28, f26, f32, f34, f35, f33, f1, f2, f3, f4, f5, f10, f11, f12, f13, f14, f15, f16, f17, f18, f19, f20, cC_Module, cC_Scope, cC_Level, cC_KindStack, cC_Walker, ce_Module_signatures, ce_Module_imports, ce_Module_functions, ce_Module_tables, ce_Module_memories, ce_Module_tags, ce_Module_variables, ce_Module_exports, ce_Module_table_segments, ce_Module_memory_segments, cq_MEMORY_EFFECTS_0, cq_MEMORY_EFFECTS_1, cq_MEMORY_EFFECTS_2, cq_MEMORY_EFFECTS_3, cq_PLAIN_EFFECTS_0, cq_PLAIN_EFFECTS_1, cq_PLAIN_EFFECTS_2, cq_PLAIN_EFFECTS_3, cq_PLAIN_EFFECTS_4⟩ : Cs)) := c_KindStack_put D_KindStack_put T 
  have C_Level___init__ : CalI l.prog w K mg base CX0 (Cs.C_Level (⟨cC_HostError, cC_CodeFault, cI_CodeFault, (PySem.W.fnOf "__init__" "CodeFault.__init__" (defArgs i_CodeFault) (defBody i_CodeFault) (defScope i_CodeFault) .none kVI_CodeFault dcI_CodeFault pmI_CodeFault anI_CodeFault cdI_CodeFault ctI_CodeFault), ct_LISTS, ct_BLOCKS, ct_ACCESS_BITS, ct_MOST_EXPONENTS, ct_RULES, ct_MEMORY_EFFECTS, ct_PLAIN_EFFECTS, ct_LOOSENING, ct_UNKNOWN, f29, f30, f27, f28, f26, f32, f34, f35, f33, f1, f2, f3, f4, f5, f10, f11, f12, f13, f14, f15, f16, f17, f18, f19, f20, cC_Module, cC_Scope, cC_Level, cC_KindStack, cC_Walker, ce_Module_signatures, ce_Module_imports, ce_Module_functions, ce_Module_tables, ce_Module_memories, ce_Module_tags, ce_Module_variables, ce_Module_exports, ce_Module_table_segments, ce_Module_memory_segments, cq_MEMORY_EFFECTS_0, cq_MEMORY_EFFECTS_1, cq_MEMORY_EFFECTS_2, cq_MEMORY_EFFECTS_3, cq_PLAIN_EFFECTS_0, cq_PLAIN_EFFECTS_1, cq_PLAIN_EFFECTS_2, cq_PLAIN_EFFECTS_3, cq_PLAIN_EFFECTS_4⟩ : Cs)) 1 (sp_Level___init__ K (⟨cC_HostError, cC_CodeFault, cI_CodeFault, (PySem.W.fnOf "__init__" "CodeFault.__init__" (defArgs i_CodeFault) (defBody i_CodeFault) (defScope i_CodeFault) .none kVI_CodeFault dcI_CodeFault pmI_CodeFault anI_CodeFault cdI_CodeFault ctI_CodeFault), ct_LISTS, ct_BLOCKS, ct_ACCESS_BITS, ct_MOST_EXPONENTS, ct_RULES, ct_MEMORY_EFFECTS, ct_PLAIN_EFFECTS, ct_LOOSENING, ct_UNKNOWN, f29, f30, f27, f28, f26, f32, f34, f35, f33, f1, f2, f3, f4, f5, f10, f11, f12, f13, f14, f15, f16, f17, f18, f19, f20, cC_Module, cC_Scope, cC_Level, cC_KindStack, cC_Walker, ce_Module_signatures, ce_Module_imports, ce_Module_functions, ce_Module_tables, ce_Module_memories, ce_Module_tags, ce_Module_variables, ce_Module_exports, ce_Module_table_segments, ce_Module_memory_segments, cq_MEMORY_EFFECTS_0, cq_MEMORY_EFFECTS_1, cq_MEMORY_EFFECTS_2, cq_MEMORY_EFFECTS_3, cq_PLAIN_EFFECTS_0, cq_PLAIN_EFFECTS_1, cq_PLAIN_EFFECTS_2, cq_PLAIN_EFFECTS_3, cq_PLAIN_EFFECTS_4⟩ : Cs)) := c_Level___init__ D_Level___init__ T 
  have C_KindStack_is_dead : CalM l.prog w K mg base CX0 (Cs.C_KindStack (⟨cC_HostError, cC_CodeFault, cI_CodeFault, (PySem.W.fnOf "__init__" "CodeFault.__init__" (defArgs i_CodeFault) (defBody i_CodeFault) (defScope i_CodeFault) .none kVI_CodeFault dcI_CodeFault pmI_CodeFault anI_CodeFault cdI_CodeFault ctI_CodeFault), ct_LISTS, ct_BLOCKS, ct_ACCESS_BITS, ct_MOST_EXPONENTS, ct_RULES, ct_MEMORY_EFFECTS, ct_PLAIN_EFFECTS, ct_LOOSENING, ct_UNKNOWN, f29, f30, f27, f28, f26, f32, f34, f35, f33, f1, f2, f3, f4, f5, f10, f11, f12, f13, f14, f15, f16, f17, f18, f19, f20, cC_Module, cC_Scope, cC_Level, cC_KindStack, cC_Walker, ce_Module_signatures, ce_Module_imports, ce_Module_functions, ce_Module_tables, ce_Module_memories, ce_Module_tags, ce_Module_variables, ce_Module_exports, ce_Module_table_segments, ce_Module_memory_segments, cq_MEMORY_EFFECTS_0, cq_MEMORY_EFFECTS_1, cq_MEMORY_EFFECTS_2, cq_MEMORY_EFFECTS_3, cq_PLAIN_EFFECTS_0, cq_PLAIN_EFFECTS_1, cq_PLAIN_EFFECTS_2, cq_PLAIN_EFFECTS_3, cq_PLAIN_EFFECTS_4⟩ : Cs)) 1 "is_dead" (sp_KindStack_is_dead K (⟨cC_HostError, cC_CodeFault, cI_CodeFault, (PySem.W.fnOf "__init__" "CodeFault.__init__" (defArgs i_CodeFault) (defBody i_CodeFault) (defScope i_CodeFault) .none kVI_CodeFault dcI_CodeFault pmI_CodeFault anI_CodeFault cdI_CodeFault ctI_CodeFault), ct_LISTS, ct_BLOCKS, ct_ACCESS_BITS, ct_MOST_EXPONENTS, ct_RULES, ct_MEMORY_EFFECTS, ct_PLAIN_EFFECTS, ct_LOOSENING, ct_UNKNOWN, f29, f30, f27, f28, f26, f32, f34, f35, f33, f1, f2, f3, f4, f5, f10, f11, f12, f13, f14, f15, f16, f17, f18, f19, f20, cC_Module, cC_Scope, cC_Level, cC_KindStack, cC_Walker, ce_Module_signatures, ce_Module_imports, ce_Module_functions, ce_Module_tables, ce_Module_memories, ce_Module_tags, ce_Module_variables, ce_Module_exports, ce_Module_table_segments, ce_Module_memory_segments, cq_MEMORY_EFFECTS_0, cq_MEMORY_EFFECTS_1, cq_MEMORY_EFFECTS_2, cq_MEMORY_EFFECTS_3, cq_PLAIN_EFFECTS_0, cq_PLAIN_EFFECTS_1, cq_PLAIN_EFFECTS_2, cq_PLAIN_EFFECTS_3, cq_PLAIN_EFFECTS_4⟩ : Cs)) := c_KindStack_is_dead D_KindStack_is_dead T 
  have C_KindStack_enter : CalM l.prog w K mg base CX0 (Cs.C_KindStack (⟨cC_HostError, cC_CodeFault, cI_CodeFault, (PySem.W.fnOf "__init__" "CodeFault.__init__" (defArgs i_CodeFault) (defBody i_CodeFault) (defScope i_CodeFault) .none kVI_CodeFault dcI_CodeFault pmI_CodeFault anI_CodeFault cdI_CodeFault ctI_CodeFault), ct_LISTS, ct_BLOCKS, ct_ACCESS_BITS, ct_MOST_EXPONENTS, ct_RULES, ct_MEMORY_EFFECTS, ct_PLAIN_EFFECTS, ct_LOOSENING, ct_UNKNOWN, f29, f30, f27, f28, f26, f32, f34, f35, f33, f1, f2, f3, f4, f5, f10, f11, f12, f13, f14, f15, f16, f17, f18, f19, f20, cC_Module, cC_Scope, cC_Level, cC_KindStack, cC_Walker, ce_Module_signatures, ce_Module_imports, ce_Module_functions, ce_Module_tables, ce_Module_memories, ce_Module_tags, ce_Module_variables, ce_Module_exports, ce_Module_table_segments, ce_Module_memory_segments, cq_MEMORY_EFFECTS_0, cq_MEMORY_EFFECTS_1, cq_MEMORY_EFFECTS_2, cq_MEMORY_EFFECTS_3, cq_PLAIN_EFFECTS_0, cq_PLAIN_EFFECTS_1, cq_PLAIN_EFFECTS_2, cq_PLAIN_EFFECTS_3, cq_PLAIN_EFFECTS_4⟩ : Cs)) 3 "enter" (sp_KindStack_enter K (⟨cC_HostError, cC_CodeFault, cI_CodeFault, (PySem.W.fnOf "__init__" "CodeFault.__init__" (defArgs i_CodeFault) (defBody i_CodeFault) (defScope i_CodeFault) .none kVI_CodeFault dcI_CodeFault pmI_CodeFault anI_CodeFault cdI_CodeFault ctI_CodeFault), ct_LISTS, ct_BLOCKS, ct_ACCESS_BITS, ct_MOST_EXPONENTS, ct_RULES, ct_MEMORY_EFFECTS, ct_PLAIN_EFFECTS, ct_LOOSENING, ct_UNKNOWN, f29, f30, f27, f28, f26, f32, f34, f35, f33, f1, f2, f3, f4, f5, f10, f11, f12, f13, f14, f15, f16, f17, f18, f19, f20, cC_Module, cC_Scope, cC_Level, cC_KindStack, cC_Walker, ce_Module_signatures, ce_Module_imports, ce_Module_functions, ce_Module_tables, ce_Module_memories, ce_Module_tags, ce_Module_variables, ce_Module_exports, ce_Module_table_segments, ce_Module_memory_segments, cq_MEMORY_EFFECTS_0, cq_MEMORY_EFFECTS_1, cq_MEMORY_EFFECTS_2, cq_MEMORY_EFFECTS_3, cq_PLAIN_EFFECTS_0, cq_PLAIN_EFFECTS_1, cq_PLAIN_EFFECTS_2, cq_PLAIN_EFFECTS_3, cq_PLAIN_EFFECTS_4⟩ : Cs)) := c_KindStack_enter D_KindStack_enter T C_KindStack_put C_Level___init__ C_KindStack_is_dead
  have C_KindStack_shown : CalM l.prog w K mg base CX0 (Cs.C_KindStack (⟨cC_HostError, cC_CodeFault, cI_CodeFault, (PySem.W.fnOf "__init__" "CodeFault.__init__" (defArgs i_CodeFault) (defBody i_CodeFault) (defScope i_CodeFault) .none kVI_CodeFault dcI_CodeFault pmI_CodeFault anI_CodeFault cdI_CodeFault ctI_CodeFault), ct_LISTS, ct_BLOCKS, ct_ACCESS_BITS, ct_MOST_EXPONENTS, ct_RULES, ct_MEMORY_EFFECTS, ct_PLAIN_EFFECTS, ct_LOOSENING, ct_UNKNOWN, f29, f30, f27, f28, f26, f32, f34, f35, f33, f1, f2, f3, f4, f5, f10, f11, f12, f13, f14, f15, f16, f17, f18, f19, f20, cC_Module, cC_Scope, cC_Level, cC_KindStack, cC_Walker, ce_Module_signatures, ce_Module_imports, ce_Module_functions, ce_Module_tables, ce_Module_memories, ce_Module_tags, ce_Module_variables, ce_Module_exports, ce_Module_table_segments, ce_Module_memory_segments, cq_MEMORY_EFFECTS_0, cq_MEMORY_EFFECTS_1, cq_MEMORY_EFFECTS_2, cq_MEMORY_EFFECTS_3, cq_PLAIN_EFFECTS_0, cq_PLAIN_EFFECTS_1, cq_PLAIN_EFFECTS_2, cq_PLAIN_EFFECTS_3, cq_PLAIN_EFFECTS_4⟩ : Cs)) 2 "shown" (sp_KindStack_shown K (⟨cC_HostError, cC_CodeFault, cI_CodeFault, (PySem.W.fnOf "__init__" "CodeFault.__init__" (defArgs i_CodeFault) (defBody i_CodeFault) (defScope i_CodeFault) .none kVI_CodeFault dcI_CodeFault pmI_CodeFault anI_CodeFault cdI_CodeFault ctI_CodeFault), ct_LISTS, ct_BLOCKS, ct_ACCESS_BITS, ct_MOST_EXPONENTS, ct_RULES, ct_MEMORY_EFFECTS, ct_PLAIN_EFFECTS, ct_LOOSENING, ct_UNKNOWN, f29, f30, f27, f28, f26, f32, f34, f35, f33, f1, f2, f3, f4, f5, f10, f11, f12, f13, f14, f15, f16, f17, f18, f19, f20, cC_Module, cC_Scope, cC_Level, cC_KindStack, cC_Walker, ce_Module_signatures, ce_Module_imports, ce_Module_functions, ce_Module_tables, ce_Module_memories, ce_Module_tags, ce_Module_variables, ce_Module_exports, ce_Module_table_segments, ce_Module_memory_segments, cq_MEMORY_EFFECTS_0, cq_MEMORY_EFFECTS_1, cq_MEMORY_EFFECTS_2, cq_MEMORY_EFFECTS_3, cq_PLAIN_EFFECTS_0, cq_PLAIN_EFFECTS_1, cq_PLAIN_EFFECTS_2, cq_PLAIN_EFFECTS_3, cq_PLAIN_EFFECTS_4⟩ : Cs)) := c_KindStack_shown D_KindStack_shown T C_KindStack_is_dead
  have C_Walker_mark : CalM l.prog w K mg base CX0 (Cs.C_Walker (⟨cC_HostError, cC_CodeFault, cI_CodeFault, (PySem.W.fnOf "__init__" "CodeFault.__init__" (defArgs i_CodeFault) (defBody i_CodeFault) (defScope i_CodeFault) .none kVI_CodeFault dcI_CodeFault pmI_CodeFault anI_CodeFault cdI_CodeFault ctI_CodeFault), ct_LISTS, ct_BLOCKS, ct_ACCESS_BITS, ct_MOST_EXPONENTS, ct_RULES, ct_MEMORY_EFFECTS, ct_PLAIN_EFFECTS, ct_LOOSENING, ct_UNKNOWN, f29, f30, f27, f28, f26, f32, f34, f35, f33, f1, f2, f3, f4, f5, f10, f11, f12, f13, f14, f15, f16, f17, f18, f19, f20, cC_Module, cC_Scope, cC_Level, cC_KindStack, cC_Walker, ce_Module_signatures, ce_Module_imports, ce_Module_functions, ce_Module_tables, ce_Module_memories, ce_Module_tags, ce_Module_variables, ce_Module_exports, ce_Module_table_segments, ce_Module_memory_segments, cq_MEMORY_EFFECTS_0, cq_MEMORY_EFFECTS_1, cq_MEMORY_EFFECTS_2, cq_MEMORY_EFFECTS_3, cq_PLAIN_EFFECTS_0, cq_PLAIN_EFFECTS_1, cq_PLAIN_EFFECTS_2, cq_PLAIN_EFFECTS_3, cq_PLAIN_EFFECTS_4⟩ : Cs)) 3 "mark" (sp_Walker_mark K (⟨cC_HostError, cC_CodeFault, cI_CodeFault, (PySem.W.fnOf "__init__" "CodeFault.__init__" (defArgs i_CodeFault) (defBody i_CodeFault) (defScope i_CodeFault) .none kVI_CodeFault dcI_CodeFault pmI_CodeFault anI_CodeFault cdI_CodeFault ctI_CodeFault), ct_LISTS, ct_BLOCKS, ct_ACCESS_BITS, ct_MOST_EXPONENTS, ct_RULES, ct_MEMORY_EFFECTS, ct_PLAIN_EFFECTS, ct_LOOSENING, ct_UNKNOWN, f29, f30, f27, f28, f26, f32, f34, f35, f33, f1, f2, f3, f4, f5, f10, f11, f12, f13, f14, f15, f16, f17, f18, f19, f20, cC_Module, cC_Scope, cC_Level, cC_KindStack, cC_Walker, ce_Module_signatures, ce_Module_imports, ce_Module_functions, ce_Module_tables, ce_Module_memories, ce_Module_tags, ce_Module_variables, ce_Module_exports, ce_Module_table_segments, ce_Module_memory_segments, cq_MEMORY_EFFECTS_0, cq_MEMORY_EFFECTS_1, cq_MEMORY_EFFECTS_2, cq_MEMORY_EFFECTS_3, cq_PLAIN_EFFECTS_0, cq_PLAIN_EFFECTS_1, cq_PLAIN_EFFECTS_2, cq_PLAIN_EFFECTS_3, cq_PLAIN_EFFECTS_4⟩ : Cs)) := c_Walker_mark D_Walker_mark T C_KindStack_shown
  have C_agree : Cal l.prog w K mg base CX0 1 "agree" (sp_agree K (⟨cC_HostError, cC_CodeFault, cI_CodeFault, (PySem.W.fnOf "__init__" "CodeFault.__init__" (defArgs i_CodeFault) (defBody i_CodeFault) (defScope i_CodeFault) .none kVI_CodeFault dcI_CodeFault pmI_CodeFault anI_CodeFault cdI_CodeFault ctI_CodeFault), ct_LISTS, ct_BLOCKS, ct_ACCESS_BITS, ct_MOST_EXPONENTS, ct_RULES, ct_MEMORY_EFFECTS, ct_PLAIN_EFFECTS, ct_LOOSENING, ct_UNKNOWN, f29, f30, f27, f28, f26, f32, f34, f35, f33, f1, f2, f3, f4, f5, f10, f11, f12, f13, f14, f15, f16, f17, f18, f19, f20, cC_Module, cC_Scope, cC_Level, cC_KindStack, cC_Walker, ce_Module_signatures, ce_Module_imports, ce_Module_functions, ce_Module_tables, ce_Module_memories, ce_Module_tags, ce_Module_variables, ce_Module_exports, ce_Module_table_segments, ce_Module_memory_segments, cq_MEMORY_EFFECTS_0, cq_MEMORY_EFFECTS_1, cq_MEMORY_EFFECTS_2, cq_MEMORY_EFFECTS_3, cq_PLAIN_EFFECTS_0, cq_PLAIN_EFFECTS_1, cq_PLAIN_EFFECTS_2, cq_PLAIN_EFFECTS_3, cq_PLAIN_EFFECTS_4⟩ : Cs)) := c_agree D_agree T 
  have C_KindStack_need : CalM l.prog w K mg base (L2.CX l.prog w) (Cs.C_KindStack (⟨cC_HostError, cC_CodeFault, cI_CodeFault, (PySem.W.fnOf "__init__" "CodeFault.__init__" (defArgs i_CodeFault) (defBody i_CodeFault) (defScope i_CodeFault) .none kVI_CodeFault dcI_CodeFault pmI_CodeFault anI_CodeFault cdI_CodeFault ctI_CodeFault), ct_LISTS, ct_BLOCKS, ct_ACCESS_BITS, ct_MOST_EXPONENTS, ct_RULES, ct_MEMORY_EFFECTS, ct_PLAIN_EFFECTS, ct_LOOSENING, ct_UNKNOWN, f29, f30, f27, f28, f26, f32, f34, f35, f33, f1, f2, f3, f4, f5, f10, f11, f12, f13, f14, f15, f16, f17, f18, f19, f20, cC_Module, cC_Scope, cC_Level, cC_KindStack, cC_Walker, ce_Module_signatures, ce_Module_imports, ce_Module_functions, ce_Module_tables, ce_Module_memories, ce_Module_tags, ce_Module_variables, ce_Module_exports, ce_Module_table_segments, ce_Module_memory_segments, cq_MEMORY_EFFECTS_0, cq_MEMORY_EFFECTS_1, cq_MEMORY_EFFECTS_2, cq_MEMORY_EFFECTS_3, cq_PLAIN_EFFECTS_0, cq_PLAIN_EFFECTS_1, cq_PLAIN_EFFECTS_2, cq_PLAIN_EFFECTS_3, cq_PLAIN_EFFECTS_4⟩ : Cs)) 3 "need" (sp_KindStack_need K (⟨cC_HostError, cC_CodeFault, cI_CodeFault, (PySem.W.fnOf "__init__" "CodeFault.__init__" (defArgs i_CodeFault) (defBody i_CodeFault) (defScope i_CodeFault) .none kVI_CodeFault dcI_CodeFault pmI_CodeFault anI_CodeFault cdI_CodeFault ctI_CodeFault), ct_LISTS, ct_BLOCKS, ct_ACCESS_BITS, ct_MOST_EXPONENTS, ct_RULES, ct_MEMORY_EFFECTS, ct_PLAIN_EFFECTS, ct_LOOSENING, ct_UNKNOWN, f29, f30, f27, f28, f26, f32, f34, f35, f33, f1, f2, f3, f4, f5, f10, f11, f12, f13, f14, f15, f16, f17, f18, f19, f20, cC_Module, cC_Scope, cC_Level, cC_KindStack, cC_Walker, ce_Module_signatures, ce_Module_imports, ce_Module_functions, ce_Module_tables, ce_Module_memories, ce_Module_tags, ce_Module_variables, ce_Module_exports, ce_Module_table_segments, ce_Module_memory_segments, cq_MEMORY_EFFECTS_0, cq_MEMORY_EFFECTS_1, cq_MEMORY_EFFECTS_2, cq_MEMORY_EFFECTS_3, cq_PLAIN_EFFECTS_0, cq_PLAIN_EFFECTS_1, cq_PLAIN_EFFECTS_2, cq_PLAIN_EFFECTS_3, cq_PLAIN_EFFECTS_4⟩ : Cs)) := c_KindStack_need D_KindStack_need T C_agree
  have C_KindStack_take : CalM l.prog w K mg base (L2.CX l.prog w) (Cs.C_KindStack (⟨cC_HostError, cC_CodeFault, cI_CodeFault, (PySem.W.fnOf "__init__" "CodeFault.__init__" (defArgs i_CodeFault) (defBody i_CodeFault) (defScope i_CodeFault) .none kVI_CodeFault dcI_CodeFault pmI_CodeFault anI_CodeFault cdI_CodeFault ctI_CodeFault), ct_LISTS, ct_BLOCKS, ct_ACCESS_BITS, ct_MOST_EXPONENTS, ct_RULES, ct_MEMORY_EFFECTS, ct_PLAIN_EFFECTS, ct_LOOSENING, ct_UNKNOWN, f29, f30, f27, f28, f26, f32, f34, f35, f33, f1, f2, f3, f4, f5, f10, f11, f12, f13, f14, f15, f16, f17, f18, f19, f20, cC_Module, cC_Scope, cC_Level, cC_KindStack, cC_Walker, ce_Module_signatures, ce_Module_imports, ce_Module_functions, ce_Module_tables, ce_Module_memories, ce_Module_tags, ce_Module_variables, ce_Module_exports, ce_Module_table_segments, ce_Module_memory_segments, cq_MEMORY_EFFECTS_0, cq_MEMORY_EFFECTS_1, cq_MEMORY_EFFECTS_2, cq_MEMORY_EFFECTS_3, cq_PLAIN_EFFECTS_0, cq_PLAIN_EFFECTS_1, cq_PLAIN_EFFECTS_2, cq_PLAIN_EFFECTS_3, cq_PLAIN_EFFECTS_4⟩ : Cs)) 4 "take" (sp_KindStack_take K (⟨cC_HostError, cC_CodeFault, cI_CodeFault, (PySem.W.fnOf "__init__" "CodeFault.__init__" (defArgs i_CodeFault) (defBody i_CodeFault) (defScope i_CodeFault) .none kVI_CodeFault dcI_CodeFault pmI_CodeFault anI_CodeFault cdI_CodeFault ctI_CodeFault), ct_LISTS, ct_BLOCKS, ct_ACCESS_BITS, ct_MOST_EXPONENTS, ct_RULES, ct_MEMORY_EFFECTS, ct_PLAIN_EFFECTS, ct_LOOSENING, ct_UNKNOWN, f29, f30, f27, f28, f26, f32, f34, f35, f33, f1, f2, f3, f4, f5, f10, f11, f12, f13, f14, f15, f16, f17, f18, f19, f20, cC_Module, cC_Scope, cC_Level, cC_KindStack, cC_Walker, ce_Module_signatures, ce_Module_imports, ce_Module_functions, ce_Module_tables, ce_Module_memories, ce_Module_tags, ce_Module_variables, ce_Module_exports, ce_Module_table_segments, ce_Module_memory_segments, cq_MEMORY_EFFECTS_0, cq_MEMORY_EFFECTS_1, cq_MEMORY_EFFECTS_2, cq_MEMORY_EFFECTS_3, cq_PLAIN_EFFECTS_0, cq_PLAIN_EFFECTS_1, cq_PLAIN_EFFECTS_2, cq_PLAIN_EFFECTS_3, cq_PLAIN_EFFECTS_4⟩ : Cs)) := c_KindStack_take D_KindStack_take T C_KindStack_need
  have C_KindStack_leave : CalM l.prog w K mg base (L2.CX l.prog w) (Cs.C_KindStack (⟨cC_HostError, cC_CodeFault, cI_CodeFault, (PySem.W.fnOf "__init__" "CodeFault.__init__" (defArgs i_CodeFault) (defBody i_CodeFault) (defScope i_CodeFault) .none kVI_CodeFault dcI_CodeFault pmI_CodeFault anI_CodeFault cdI_CodeFault ctI_CodeFault), ct_LISTS, ct_BLOCKS, ct_ACCESS_BITS, ct_MOST_EXPONENTS, ct_RULES, ct_MEMORY_EFFECTS, ct_PLAIN_EFFECTS, ct_LOOSENING, ct_UNKNOWN, f29, f30, f27, f28, f26, f32, f34, f35, f33, f1, f2, f3, f4, f5, f10, f11, f12, f13, f14, f15, f16, f17, f18, f19, f20, cC_Module, cC_Scope, cC_Level, cC_KindStack, cC_Walker, ce_Module_signatures, ce_Module_imports, ce_Module_functions, ce_Module_tables, ce_Module_memories, ce_Module_tags, ce_Module_variables, ce_Module_exports, ce_Module_table_segments, ce_Module_memory_segments, cq_MEMORY_EFFECTS_0, cq_MEMORY_EFFECTS_1, cq_MEMORY_EFFECTS_2, cq_MEMORY_EFFECTS_3, cq_PLAIN_EFFECTS_0, cq_PLAIN_EFFECTS_1, cq_PLAIN_EFFECTS_2, cq_PLAIN_EFFECTS_3, cq_PLAIN_EFFECTS_4⟩ : Cs)) 5 "leave" (sp_KindStack_leave K (⟨cC_HostError, cC_CodeFault, cI_CodeFault, (PySem.W.fnOf "__init__" "CodeFault.__init__" (defArgs i_CodeFault) (defBody i_CodeFault) (defScope i_CodeFault) .none kVI_CodeFault dcI_CodeFault pmI_CodeFault anI_CodeFault cdI_CodeFault ctI_CodeFault), ct_LISTS, ct_BLOCKS, ct_ACCESS_BITS, ct_MOST_EXPONENTS, ct_RULES, ct_MEMORY_EFFECTS, ct_PLAIN_EFFECTS, ct_LOOSENING, ct_UNKNOWN, f29, f30, f27, f28, f26, f32, f34, f35, f33, f1, f2, f3, f4, f5, f10, f11, f12, f13, f14, f15, f16, f17, f18, f19, f20, cC_Module, cC_Scope, cC_Level, cC_KindStack, cC_Walker, ce_Module_signatures, ce_Module_imports, ce_Module_functions, ce_Module_tables, ce_Module_memories, ce_Module_tags, ce_Module_variables, ce_Module_exports, ce_Module_table_segments, ce_Module_memory_segments, cq_MEMORY_EFFECTS_0, cq_MEMORY_EFFECTS_1, cq_MEMORY_EFFECTS_2, cq_MEMORY_EFFECTS_3, cq_PLAIN_EFFECTS_0, cq_PLAIN_EFFECTS_1, cq_PLAIN_EFFECTS_2, cq_PLAIN_EFFECTS_3, cq_PLAIN_EFFECTS_4⟩ : Cs)) := c_KindStack_leave D_KindStack_leave T C_KindStack_take
  have C_shape_kinds : Cal l.prog w K mg base CX0 1 "shape_kinds" (sp_shape_kinds K (⟨cC_HostError, cC_CodeFault, cI_CodeFault, (PySem.W.fnOf "__init__" "CodeFault.__init__" (defArgs i_CodeFault) (defBody i_CodeFault) (defScope i_CodeFault) .none kVI_CodeFault dcI_CodeFault pmI_CodeFault anI_CodeFault cdI_CodeFault ctI_CodeFault), ct_LISTS, ct_BLOCKS, ct_ACCESS_BITS, ct_MOST_EXPONENTS, ct_RULES, ct_MEMORY_EFFECTS, ct_PLAIN_EFFECTS, ct_LOOSENING, ct_UNKNOWN, f29, f30, f27, f28, f26, f32, f34, f35, f33, f1, f2, f3, f4, f5, f10, f11, f12, f13, f14, f15, f16, f17, f18, f19, f20, cC_Module, cC_Scope, cC_Level, cC_KindStack, cC_Walker, ce_Module_signatures, ce_Module_imports, ce_Module_functions, ce_Module_tables, ce_Module_memories, ce_Module_tags, ce_Module_variables, ce_Module_exports, ce_Module_table_segments, ce_Module_memory_segments, cq_MEMORY_EFFECTS_0, cq_MEMORY_EFFECTS_1, cq_MEMORY_EFFECTS_2, cq_MEMORY_EFFECTS_3, cq_PLAIN_EFFECTS_0, cq_PLAIN_EFFECTS_1, cq_PLAIN_EFFECTS_2, cq_PLAIN_EFFECTS_3, cq_PLAIN_EFFECTS_4⟩ : Cs)) := c_shape_kinds D_shape_kinds T 
  have C_Scope_shape : CalM l.prog w K mg base (L2.CX l.prog w) (Cs.C_Scope (⟨cC_HostError, cC_CodeFault, cI_CodeFault, (PySem.W.fnOf "__init__" "CodeFault.__init__" (defArgs i_CodeFault) (defBody i_CodeFault) (defScope i_CodeFault) .none kVI_CodeFault dcI_CodeFault pmI_CodeFault anI_CodeFault cdI_CodeFault ctI_CodeFault), ct_LISTS, ct_BLOCKS, ct_ACCESS_BITS, ct_MOST_EXPONENTS, ct_RULES, ct_MEMORY_EFFECTS, ct_PLAIN_EFFECTS, ct_LOOSENING, ct_UNKNOWN, f29, f30, f27, f28, f26, f32, f34, f35, f33, f1, f2, f3, f4, f5, f10, f11, f12, f13, f14, f15, f16, f17, f18, f19, f20, cC_Module, cC_Scope, cC_Level, cC_KindStack, cC_Walker, ce_Module_signatures, ce_Module_imports, ce_Module_functions, ce_Module_tables, ce_Module_memories, ce_Module_tags, ce_Module_variables, ce_Module_exports, ce_Module_table_segments, ce_Module_memory_segments, cq_MEMORY_EFFECTS_0, cq_MEMORY_EFFECTS_1, cq_MEMORY_EFFECTS_2, cq_MEMORY_EFFECTS_3, cq_PLAIN_EFFECTS_0, cq_PLAIN_EFFECTS_1, cq_PLAIN_EFFECTS_2, cq_PLAIN_EFFECTS_3, cq_PLAIN_EFFECTS_4⟩ : Cs)) 3 "shape" (sp_Scope_shape K (⟨cC_HostError, cC_CodeFault, cI_CodeFault, (PySem.W.fnOf "__init__" "CodeFault.__init__" (defArgs i_CodeFault) (defBody i_CodeFault) (defScope i_CodeFault) .none kVI_CodeFault dcI_CodeFault pmI_CodeFault anI_CodeFault cdI_CodeFault ctI_CodeFault), ct_LISTS, ct_BLOCKS, ct_ACCESS_BITS, ct_MOST_EXPONENTS, ct_RULES, ct_MEMORY_EFFECTS, ct_PLAIN_EFFECTS, ct_LOOSENING, ct_UNKNOWN, f29, f30, f27, f28, f26, f32, f34, f35, f33, f1, f2, f3, f4, f5, f10, f11, f12, f13, f14, f15, f16, f17, f18, f19, f20, cC_Module, cC_Scope, cC_Level, cC_KindStack, cC_Walker, ce_Module_signatures, ce_Module_imports, ce_Module_functions, ce_Module_tables, ce_Module_memories, ce_Module_tags, ce_Module_variables, ce_Module_exports, ce_Module_table_segments, ce_Module_memory_segments, cq_MEMORY_EFFECTS_0, cq_MEMORY_EFFECTS_1, cq_MEMORY_EFFECTS_2, cq_MEMORY_EFFECTS_3, cq_PLAIN_EFFECTS_0, cq_PLAIN_EFFECTS_1, cq_PLAIN_EFFECTS_2, cq_PLAIN_EFFECTS_3, cq_PLAIN_EFFECTS_4⟩ : Cs)) := c_Scope_shape D_Scope_shape T C_shape_kinds
  have C_bodies_of : Cal l.prog w K mg base CX0 1 "bodies_of" (sp_bodies_of K (⟨cC_HostError, cC_CodeFault, cI_CodeFault, (PySem.W.fnOf "__init__" "CodeFault.__init__" (defArgs i_CodeFault) (defBody i_CodeFault) (defScope i_CodeFault) .none kVI_CodeFault dcI_CodeFault pmI_CodeFault anI_CodeFault cdI_CodeFault ctI_CodeFault), ct_LISTS, ct_BLOCKS, ct_ACCESS_BITS, ct_MOST_EXPONENTS, ct_RULES, ct_MEMORY_EFFECTS, ct_PLAIN_EFFECTS, ct_LOOSENING, ct_UNKNOWN, f29, f30, f27, f28, f26, f32, f34, f35, f33, f1, f2, f3, f4, f5, f10, f11, f12, f13, f14, f15, f16, f17, f18, f19, f20, cC_Module, cC_Scope, cC_Level, cC_KindStack, cC_Walker, ce_Module_signatures, ce_Module_imports, ce_Module_functions, ce_Module_tables, ce_Module_memories, ce_Module_tags, ce_Module_variables, ce_Module_exports, ce_Module_table_segments, ce_Module_memory_segments, cq_MEMORY_EFFECTS_0, cq_MEMORY_EFFECTS_1, cq_MEMORY_EFFECTS_2, cq_MEMORY_EFFECTS_3, cq_PLAIN_EFFECTS_0, cq_PLAIN_EFFECTS_1, cq_PLAIN_EFFECTS_2, cq_PLAIN_EFFECTS_3, cq_PLAIN_EFFECTS_4⟩ : Cs)) := c_bodies_of D_bodies_of T 
  have C_Scope_label : CalM l.prog w K mg base (L2.CX l.prog w) (Cs.C_Scope (⟨cC_HostError, cC_CodeFault, cI_CodeFault, (PySem.W.fnOf "__init__" "CodeFault.__init__" (defArgs i_CodeFault) (defBody i_CodeFault) (defScope i_CodeFault) .none kVI_CodeFault dcI_CodeFault pmI_CodeFault anI_CodeFault cdI_CodeFault ctI_CodeFault), ct_LISTS, ct_BLOCKS, ct_ACCESS_BITS, ct_MOST_EXPONENTS, ct_RULES, ct_MEMORY_EFFECTS, ct_PLAIN_EFFECTS, ct_LOOSENING, ct_UNKNOWN, f29, f30, f27, f28, f26, f32, f34, f35, f33, f1, f2, f3, f4, f5, f10, f11, f12, f13, f14, f15, f16, f17, f18, f19, f20, cC_Module, cC_Scope, cC_Level, cC_KindStack, cC_Walker, ce_Module_signatures, ce_Module_imports, ce_Module_functions, ce_Module_tables, ce_Module_memories, ce_Module_tags, ce_Module_variables, ce_Module_exports, ce_Module_table_segments, ce_Module_memory_segments, cq_MEMORY_EFFECTS_0, cq_MEMORY_EFFECTS_1, cq_MEMORY_EFFECTS_2, cq_MEMORY_EFFECTS_3, cq_PLAIN_EFFECTS_0, cq_PLAIN_EFFECTS_1, cq_PLAIN_EFFECTS_2, cq_PLAIN_EFFECTS_3, cq_PLAIN_EFFECTS_4⟩ : Cs)) 3 "label" (sp_Scope_label K (⟨cC_HostError, cC_CodeFault, cI_CodeFault, (PySem.W.fnOf "__init__" "CodeFault.__init__" (defArgs i_CodeFault) (defBody i_CodeFault) (defScope i_CodeFault) .none kVI_CodeFault dcI_CodeFault pmI_CodeFault anI_CodeFault cdI_CodeFault ctI_CodeFault), ct_LISTS, ct_BLOCKS, ct_ACCESS_BITS, ct_MOST_EXPONENTS, ct_RULES, ct_MEMORY_EFFECTS, ct_PLAIN_EFFECTS, ct_LOOSENING, ct_UNKNOWN, f29, f30, f27, f28, f26, f32, f34, f35, f33, f1, f2, f3, f4, f5, f10, f11, f12, f13, f14, f15, f16, f17, f18, f19, f20, cC_Module, cC_Scope, cC_Level, cC_KindStack, cC_Walker, ce_Module_signatures, ce_Module_imports, ce_Module_functions, ce_Module_tables, ce_Module_memories, ce_Module_tags, ce_Module_variables, ce_Module_exports, ce_Module_table_segments, ce_Module_memory_segments, cq_MEMORY_EFFECTS_0, cq_MEMORY_EFFECTS_1, cq_MEMORY_EFFECTS_2, cq_MEMORY_EFFECTS_3, cq_PLAIN_EFFECTS_0, cq_PLAIN_EFFECTS_1, cq_PLAIN_EFFECTS_2, cq_PLAIN_EFFECTS_3, cq_PLAIN_EFFECTS_4⟩ : Cs)) := c_Scope_label D_Scope_label T 
  have C_Scope_tag : CalM l.prog w K mg base (L2.CX l.prog w) (Cs.C_Scope (⟨cC_HostError, cC_CodeFault, cI_CodeFault, (PySem.W.fnOf "__init__" "CodeFault.__init__" (defArgs i_CodeFault) (defBody i_CodeFault) (defScope i_CodeFault) .none kVI_CodeFault dcI_CodeFault pmI_CodeFault anI_CodeFault cdI_CodeFault ctI_CodeFault), ct_LISTS, ct_BLOCKS, ct_ACCESS_BITS, ct_MOST_EXPONENTS, ct_RULES, ct_MEMORY_EFFECTS, ct_PLAIN_EFFECTS, ct_LOOSENING, ct_UNKNOWN, f29, f30, f27, f28, f26, f32, f34, f35, f33, f1, f2, f3, f4, f5, f10, f11, f12, f13, f14, f15, f16, f17, f18, f19, f20, cC_Module, cC_Scope, cC_Level, cC_KindStack, cC_Walker, ce_Module_signatures, ce_Module_imports, ce_Module_functions, ce_Module_tables, ce_Module_memories, ce_Module_tags, ce_Module_variables, ce_Module_exports, ce_Module_table_segments, ce_Module_memory_segments, cq_MEMORY_EFFECTS_0, cq_MEMORY_EFFECTS_1, cq_MEMORY_EFFECTS_2, cq_MEMORY_EFFECTS_3, cq_PLAIN_EFFECTS_0, cq_PLAIN_EFFECTS_1, cq_PLAIN_EFFECTS_2, cq_PLAIN_EFFECTS_3, cq_PLAIN_EFFECTS_4⟩ : Cs)) 3 "tag" (sp_Scope_tag K (⟨cC_HostError, cC_CodeFault, cI_CodeFault, (PySem.W.fnOf "__init__" "CodeFault.__init__" (defArgs i_CodeFault) (defBody i_CodeFault) (defScope i_CodeFault) .none kVI_CodeFault dcI_CodeFault pmI_CodeFault anI_CodeFault cdI_CodeFault ctI_CodeFault), ct_LISTS, ct_BLOCKS, ct_ACCESS_BITS, ct_MOST_EXPONENTS, ct_RULES, ct_MEMORY_EFFECTS, ct_PLAIN_EFFECTS, ct_LOOSENING, ct_UNKNOWN, f29, f30, f27, f28, f26, f32, f34, f35, f33, f1, f2, f3, f4, f5, f10, f11, f12, f13, f14, f15, f16, f17, f18, f19, f20, cC_Module, cC_Scope, cC_Level, cC_KindStack, cC_Walker, ce_Module_signatures, ce_Module_imports, ce_Module_functions, ce_Module_tables, ce_Module_memories, ce_Module_tags, ce_Module_variables, ce_Module_exports, ce_Module_table_segments, ce_Module_memory_segments, cq_MEMORY_EFFECTS_0, cq_MEMORY_EFFECTS_1, cq_MEMORY_EFFECTS_2, cq_MEMORY_EFFECTS_3, cq_PLAIN_EFFECTS_0, cq_PLAIN_EFFECTS_1, cq_PLAIN_EFFECTS_2, cq_PLAIN_EFFECTS_3, cq_PLAIN_EFFECTS_4⟩ : Cs)) := c_Scope_tag D_Scope_tag T 
  have C_Walker_check_catch : CalM l.prog w K mg base (L2.CX l.prog w) (Cs.C_Walker (⟨cC_HostError, cC_CodeFault, cI_CodeFault, (PySem.W.fnOf "__init__" "CodeFault.__init__" (defArgs i_CodeFault) (defBody i_CodeFault) (defScope i_CodeFault) .none kVI_CodeFault dcI_CodeFault pmI_CodeFault anI_CodeFault cdI_CodeFault ctI_CodeFault), ct_LISTS, ct_BLOCKS, ct_ACCESS_BITS, ct_MOST_EXPONENTS, ct_RULES, ct_MEMORY_EFFECTS, ct_PLAIN_EFFECTS, ct_LOOSENING, ct_UNKNOWN, f29, f30, f27, f28, f26, f32, f34, f35, f33, f1, f2, f3, f4, f5, f10, f11, f12, f13, f14, f15, f16, f17, f18, f19, f20, cC_Module, cC_Scope, cC_Level, cC_KindStack, cC_Walker, ce_Module_signatures, ce_Module_imports, ce_Module_functions, ce_Module_tables, ce_Module_memories, ce_Module_tags, ce_Module_variables, ce_Module_exports, ce_Module_table_segments, ce_Module_memory_segments, cq_MEMORY_EFFECTS_0, cq_MEMORY_EFFECTS_1, cq_MEMORY_EFFECTS_2, cq_MEMORY_EFFECTS_3, cq_PLAIN_EFFECTS_0, cq_PLAIN_EFFECTS_1, cq_PLAIN_EFFECTS_2, cq_PLAIN_EFFECTS_3, cq_PLAIN_EFFECTS_4⟩ : Cs)) 4 "check_catch" (sp_Walker_check_catch K (⟨cC_HostError, cC_CodeFault, cI_CodeFault, (PySem.W.fnOf "__init__" "CodeFault.__init__" (defArgs i_CodeFault) (defBody i_CodeFault) (defScope i_CodeFault) .none kVI_CodeFault dcI_CodeFault pmI_CodeFault anI_CodeFault cdI_CodeFault ctI_CodeFault), ct_LISTS, ct_BLOCKS, ct_ACCESS_BITS, ct_MOST_EXPONENTS, ct_RULES, ct_MEMORY_EFFECTS, ct_PLAIN_EFFECTS, ct_LOOSENING, ct_UNKNOWN, f29, f30, f27, f28, f26, f32, f34, f35, f33, f1, f2, f3, f4, f5, f10, f11, f12, f13, f14, f15, f16, f17, f18, f19, f20, cC_Module, cC_Scope, cC_Level, cC_KindStack, cC_Walker, ce_Module_signatures, ce_Module_imports, ce_Module_functions, ce_Module_tables, ce_Module_memories, ce_Module_tags, ce_Module_variables, ce_Module_exports, ce_Module_table_segments, ce_Module_memory_segments, cq_MEMORY_EFFECTS_0, cq_MEMORY_EFFECTS_1, cq_MEMORY_EFFECTS_2, cq_MEMORY_EFFECTS_3, cq_PLAIN_EFFECTS_0, cq_PLAIN_EFFECTS_1, cq_PLAIN_EFFECTS_2, cq_PLAIN_EFFECTS_3, cq_PLAIN_EFFECTS_4⟩ : Cs)) := c_Walker_check_catch D_Walker_check_catch T C_Scope_label C_Scope_tag
  have C_KindStack_loosen : CalM l.prog w K mg base CX0 (Cs.C_KindStack (⟨cC_HostError, cC_CodeFault, cI_CodeFault, (PySem.W.fnOf "__init__" "CodeFault.__init__" (defArgs i_CodeFault) (defBody i_CodeFault) (defScope i_CodeFault) .none kVI_CodeFault dcI_CodeFault pmI_CodeFault anI_CodeFault cdI_CodeFault ctI_CodeFault), ct_LISTS, ct_BLOCKS, ct_ACCESS_BITS, ct_MOST_EXPONENTS, ct_RULES, ct_MEMORY_EFFECTS, ct_PLAIN_EFFECTS, ct_LOOSENING, ct_UNKNOWN, f29, f30, f27, f28, f26, f32, f34, f35, f33, f1, f2, f3, f4, f5, f10, f11, f12, f13, f14, f15, f16, f17, f18, f19, f20, cC_Module, cC_Scope, cC_Level, cC_KindStack, cC_Walker, ce_Module_signatures, ce_Module_imports, ce_Module_functions, ce_Module_tables, ce_Module_memories, ce_Module_tags, ce_Module_variables, ce_Module_exports, ce_Module_table_segments, ce_Module_memory_segments, cq_MEMORY_EFFECTS_0, cq_MEMORY_EFFECTS_1, cq_MEMORY_EFFECTS_2, cq_MEMORY_EFFECTS_3, cq_PLAIN_EFFECTS_0, cq_PLAIN_EFFECTS_1, cq_PLAIN_EFFECTS_2, cq_PLAIN_EFFECTS_3, cq_PLAIN_EFFECTS_4⟩ : Cs)) 1 "loosen" (sp_KindStack_loosen K (⟨cC_HostError, cC_CodeFault, cI_CodeFault, (PySem.W.fnOf "__init__" "CodeFault.__init__" (defArgs i_CodeFault) (defBody i_CodeFault) (defScope i_CodeFault) .none kVI_CodeFault dcI_CodeFault pmI_CodeFault anI_CodeFault cdI_CodeFault ctI_CodeFault), ct_LISTS, ct_BLOCKS, ct_ACCESS_BITS, ct_MOST_EXPONENTS, ct_RULES, ct_MEMORY_EFFECTS, ct_PLAIN_EFFECTS, ct_LOOSENING, ct_UNKNOWN, f29, f30, f27, f28, f26, f32, f34, f35, f33, f1, f2, f3, f4, f5, f10, f11, f12, f13, f14, f15, f16, f17, f18, f19, f20, cC_Module, cC_Scope, cC_Level, cC_KindStack, cC_Walker, ce_Module_signatures, ce_Module_imports, ce_Module_functions, ce_Module_tables, ce_Module_memories, ce_Module_tags, ce_Module_variables, ce_Module_exports, ce_Module_table_segments, ce_Module_memory_segments, cq_MEMORY_EFFECTS_0, cq_MEMORY_EFFECTS_1, cq_MEMORY_EFFECTS_2, cq_MEMORY_EFFECTS_3, cq_PLAIN_EFFECTS_0, cq_PLAIN_EFFECTS_1, cq_PLAIN_EFFECTS_2, cq_PLAIN_EFFECTS_3, cq_PLAIN_EFFECTS_4⟩ : Cs)) := c_KindStack_loosen D_KindStack_loosen T 
  have C_KindStack_take_any : CalM l.prog w K mg base (L2.CX l.prog w) (Cs.C_KindStack (⟨cC_HostError, cC_CodeFault, cI_CodeFault, (PySem.W.fnOf "__init__" "CodeFault.__init__" (defArgs i_CodeFault) (defBody i_CodeFault) (defScope i_CodeFault) .none kVI_CodeFault dcI_CodeFault pmI_CodeFault anI_CodeFault cdI_CodeFault ctI_CodeFault), ct_LISTS, ct_BLOCKS, ct_ACCESS_BITS, ct_MOST_EXPONENTS, ct_RULES, ct_MEMORY_EFFECTS, ct_PLAIN_EFFECTS, ct_LOOSENING, ct_UNKNOWN, f29, f30, f27, f28, f26, f32, f34, f35, f33, f1, f2, f3, f4, f5, f10, f11, f12, f13, f14, f15, f16, f17, f18, f19, f20, cC_Module, cC_Scope, cC_Level, cC_KindStack, cC_Walker, ce_Module_signatures, ce_Module_imports, ce_Module_functions, ce_Module_tables, ce_Module_memories, ce_Module_tags, ce_Module_variables, ce_Module_exports, ce_Module_table_segments, ce_Module_memory_segments, cq_MEMORY_EFFECTS_0, cq_MEMORY_EFFECTS_1, cq_MEMORY_EFFECTS_2, cq_MEMORY_EFFECTS_3, cq_PLAIN_EFFECTS_0, cq_PLAIN_EFFECTS_1, cq_PLAIN_EFFECTS_2, cq_PLAIN_EFFECTS_3, cq_PLAIN_EFFECTS_4⟩ : Cs)) 4 "take_any" (sp_KindStack_take_any K (⟨cC_HostError, cC_CodeFault, cI_CodeFault, (PySem.W.fnOf "__init__" "CodeFault.__init__" (defArgs i_CodeFault) (defBody i_CodeFault) (defScope i_CodeFault) .none kVI_CodeFault dcI_CodeFault pmI_CodeFault anI_CodeFault cdI_CodeFault ctI_CodeFault), ct_LISTS, ct_BLOCKS, ct_ACCESS_BITS, ct_MOST_EXPONENTS, ct_RULES, ct_MEMORY_EFFECTS, ct_PLAIN_EFFECTS, ct_LOOSENING, ct_UNKNOWN, f29, f30, f27, f28, f26, f32, f34, f35, f33, f1, f2, f3, f4, f5, f10, f11, f12, f13, f14, f15, f16, f17, f18, f19, f20, cC_Module, cC_Scope, cC_Level, cC_KindStack, cC_Walker, ce_Module_signatures, ce_Module_imports, ce_Module_functions, ce_Module_tables, ce_Module_memories, ce_Module_tags, ce_Module_variables, ce_Module_exports, ce_Module_table_segments, ce_Module_memory_segments, cq_MEMORY_EFFECTS_0, cq_MEMORY_EFFECTS_1, cq_MEMORY_EFFECTS_2, cq_MEMORY_EFFECTS_3, cq_PLAIN_EFFECTS_0, cq_PLAIN_EFFECTS_1, cq_PLAIN_EFFECTS_2, cq_PLAIN_EFFECTS_3, cq_PLAIN_EFFECTS_4⟩ : Cs)) := c_KindStack_take_any D_KindStack_take_any T C_KindStack_need
  have C_Walker_choose : CalM l.prog w K mg base (L2.CX l.prog w) (Cs.C_Walker (⟨cC_HostError, cC_CodeFault, cI_CodeFault, (PySem.W.fnOf "__init__" "CodeFault.__init__" (defArgs i_CodeFault) (defBody i_CodeFault) (defScope i_CodeFault) .none kVI_CodeFault dcI_CodeFault pmI_CodeFault anI_CodeFault cdI_CodeFault ctI_CodeFault), ct_LISTS, ct_BLOCKS, ct_ACCESS_BITS, ct_MOST_EXPONENTS, ct_RULES, ct_MEMORY_EFFECTS, ct_PLAIN_EFFECTS, ct_LOOSENING, ct_UNKNOWN, f29, f30, f27, f28, f26, f32, f34, f35, f33, f1, f2, f3, f4, f5, f10, f11, f12, f13, f14, f15, f16, f17, f18, f19, f20, cC_Module, cC_Scope, cC_Level, cC_KindStack, cC_Walker, ce_Module_signatures, ce_Module_imports, ce_Module_functions, ce_Module_tables, ce_Module_memories, ce_Module_tags, ce_Module_variables, ce_Module_exports, ce_Module_table_segments, ce_Module_memory_segments, cq_MEMORY_EFFECTS_0, cq_MEMORY_EFFECTS_1, cq_MEMORY_EFFECTS_2, cq_MEMORY_EFFECTS_3, cq_PLAIN_EFFECTS_0, cq_PLAIN_EFFECTS_1, cq_PLAIN_EFFECTS_2, cq_PLAIN_EFFECTS_3, cq_PLAIN_EFFECTS_4⟩ : Cs)) 5 "choose" (sp_Walker_choose K (⟨cC_HostError, cC_CodeFault, cI_CodeFault, (PySem.W.fnOf "__init__" "CodeFault.__init__" (defArgs i_CodeFault) (defBody i_CodeFault) (defScope i_CodeFault) .none kVI_CodeFault dcI_CodeFault pmI_CodeFault anI_CodeFault cdI_CodeFault ctI_CodeFault), ct_LISTS, ct_BLOCKS, ct_ACCESS_BITS, ct_MOST_EXPONENTS, ct_RULES, ct_MEMORY_EFFECTS, ct_PLAIN_EFFECTS, ct_LOOSENING, ct_UNKNOWN, f29, f30, f27, f28, f26, f32, f34, f35, f33, f1, f2, f3, f4, f5, f10, f11, f12, f13, f14, f15, f16, f17, f18, f19, f20, cC_Module, cC_Scope, cC_Level, cC_KindStack, cC_Walker, ce_Module_signatures, ce_Module_imports, ce_Module_functions, ce_Module_tables, ce_Module_memories, ce_Module_tags, ce_Module_variables, ce_Module_exports, ce_Module_table_segments, ce_Module_memory_segments, cq_MEMORY_EFFECTS_0, cq_MEMORY_EFFECTS_1, cq_MEMORY_EFFECTS_2, cq_MEMORY_EFFECTS_3, cq_PLAIN_EFFECTS_0, cq_PLAIN_EFFECTS_1, cq_PLAIN_EFFECTS_2, cq_PLAIN_EFFECTS_3, cq_PLAIN_EFFECTS_4⟩ : Cs)) := c_Walker_choose D_Walker_choose T C_KindStack_take C_KindStack_take_any C_KindStack_put C_agree
  have C_Walker_branch_by_table : CalM l.prog w K mg base (L2.CX l.prog w) (Cs.C_Walker (⟨cC_HostError, cC_CodeFault, cI_CodeFault, (PySem.W.fnOf "__init__" "CodeFault.__init__" (defArgs i_CodeFault) (defBody i_CodeFault) (defScope i_CodeFault) .none kVI_CodeFault dcI_CodeFault pmI_CodeFault anI_CodeFault cdI_CodeFault ctI_CodeFault), ct_LISTS, ct_BLOCKS, ct_ACCESS_BITS, ct_MOST_EXPONENTS, ct_RULES, ct_MEMORY_EFFECTS, ct_PLAIN_EFFECTS, ct_LOOSENING, ct_UNKNOWN, f29, f30, f27, f28, f26, f32, f34, f35, f33, f1, f2, f3, f4, f5, f10, f11, f12, f13, f14, f15, f16, f17, f18, f19, f20, cC_Module, cC_Scope, cC_Level, cC_KindStack, cC_Walker, ce_Module_signatures, ce_Module_imports, ce_Module_functions, ce_Module_tables, ce_Module_memories, ce_Module_tags, ce_Module_variables, ce_Module_exports, ce_Module_table_segments, ce_Module_memory_segments, cq_MEMORY_EFFECTS_0, cq_MEMORY_EFFECTS_1, cq_MEMORY_EFFECTS_2, cq_MEMORY_EFFECTS_3, cq_PLAIN_EFFECTS_0, cq_PLAIN_EFFECTS_1, cq_PLAIN_EFFECTS_2, cq_PLAIN_EFFECTS_3, cq_PLAIN_EFFECTS_4⟩ : Cs)) 5 "branch_by_table" (sp_Walker_branch_by_table K (⟨cC_HostError, cC_CodeFault, cI_CodeFault, (PySem.W.fnOf "__init__" "CodeFault.__init__" (defArgs i_CodeFault) (defBody i_CodeFault) (defScope i_CodeFault) .none kVI_CodeFault dcI_CodeFault pmI_CodeFault anI_CodeFault cdI_CodeFault ctI_CodeFault), ct_LISTS, ct_BLOCKS, ct_ACCESS_BITS, ct_MOST_EXPONENTS, ct_RULES, ct_MEMORY_EFFECTS, ct_PLAIN_EFFECTS, ct_LOOSENING, ct_UNKNOWN, f29, f30, f27, f28, f26, f32, f34, f35, f33, f1, f2, f3, f4, f5, f10, f11, f12, f13, f14, f15, f16, f17, f18, f19, f20, cC_Module, cC_Scope, cC_Level, cC_KindStack, cC_Walker, ce_Module_signatures, ce_Module_imports, ce_Module_functions, ce_Module_tables, ce_Module_memories, ce_Module_tags, ce_Module_variables, ce_Module_exports, ce_Module_table_segments, ce_Module_memory_segments, cq_MEMORY_EFFECTS_0, cq_MEMORY_EFFECTS_1, cq_MEMORY_EFFECTS_2, cq_MEMORY_EFFECTS_3, cq_PLAIN_EFFECTS_0, cq_PLAIN_EFFECTS_1, cq_PLAIN_EFFECTS_2, cq_PLAIN_EFFECTS_3, cq_PLAIN_EFFECTS_4⟩ : Cs)) := c_Walker_branch_by_table D_Walker_branch_by_table T C_KindStack_take C_Scope_label C_KindStack_need
  have C_Scope_need_memory : CalM l.prog w K mg base (L2.CX l.prog w) (Cs.C_Scope (⟨cC_HostError, cC_CodeFault, cI_CodeFault, (PySem.W.fnOf "__init__" "CodeFault.__init__" (defArgs i_CodeFault) (defBody i_CodeFault) (defScope i_CodeFault) .none kVI_CodeFault dcI_CodeFault pmI_CodeFault anI_CodeFault cdI_CodeFault ctI_CodeFault), ct_LISTS, ct_BLOCKS, ct_ACCESS_BITS, ct_MOST_EXPONENTS, ct_RULES, ct_MEMORY_EFFECTS, ct_PLAIN_EFFECTS, ct_LOOSENING, ct_UNKNOWN, f29, f30, f27, f28, f26, f32, f34, f35, f33, f1, f2, f3, f4, f5, f10, f11, f12, f13, f14, f15, f16, f17, f18, f19, f20, cC_Module, cC_Scope, cC_Level, cC_KindStack, cC_Walker, ce_Module_signatures, ce_Module_imports, ce_Module_functions, ce_Module_tables, ce_Module_memories, ce_Module_tags, ce_Module_variables, ce_Module_exports, ce_Module_table_segments, ce_Module_memory_segments, cq_MEMORY_EFFECTS_0, cq_MEMORY_EFFECTS_1, cq_MEMORY_EFFECTS_2, cq_MEMORY_EFFECTS_3, cq_PLAIN_EFFECTS_0, cq_PLAIN_EFFECTS_1, cq_PLAIN_EFFECTS_2, cq_PLAIN_EFFECTS_3, cq_PLAIN_EFFECTS_4⟩ : Cs)) 3 "need_memory" (sp_Scope_need_memory K (⟨cC_HostError, cC_CodeFault, cI_CodeFault, (PySem.W.fnOf "__init__" "CodeFault.__init__" (defArgs i_CodeFault) (defBody i_CodeFault) (defScope i_CodeFault) .none kVI_CodeFault dcI_CodeFault pmI_CodeFault anI_CodeFault cdI_CodeFault ctI_CodeFault), ct_LISTS, ct_BLOCKS, ct_ACCESS_BITS, ct_MOST_EXPONENTS, ct_RULES, ct_MEMORY_EFFECTS, ct_PLAIN_EFFECTS, ct_LOOSENING, ct_UNKNOWN, f29, f30, f27, f28, f26, f32, f34, f35, f33, f1, f2, f3, f4, f5, f10, f11, f12, f13, f14, f15, f16, f17, f18, f19, f20, cC_Module, cC_Scope, cC_Level, cC_KindStack, cC_Walker, ce_Module_signatures, ce_Module_imports, ce_Module_functions, ce_Module_tables, ce_Module_memories, ce_Module_tags, ce_Module_variables, ce_Module_exports, ce_Module_table_segments, ce_Module_memory_segments, cq_MEMORY_EFFECTS_0, cq_MEMORY_EFFECTS_1, cq_MEMORY_EFFECTS_2, cq_MEMORY_EFFECTS_3, cq_PLAIN_EFFECTS_0, cq_PLAIN_EFFECTS_1, cq_PLAIN_EFFECTS_2, cq_PLAIN_EFFECTS_3, cq_PLAIN_EFFECTS_4⟩ : Cs)) := c_Scope_need_memory D_Scope_need_memory T 
  have C_access_effect : Cal l.prog w K mg base (L2.CX l.prog w) 4 "access_effect" (sp_access_effect K (⟨cC_HostError, cC_CodeFault, cI_CodeFault, (PySem.W.fnOf "__init__" "CodeFault.__init__" (defArgs i_CodeFault) (defBody i_CodeFault) (defScope i_CodeFault) .none kVI_CodeFault dcI_CodeFault pmI_CodeFault anI_CodeFault cdI_CodeFault ctI_CodeFault), ct_LISTS, ct_BLOCKS, ct_ACCESS_BITS, ct_MOST_EXPONENTS, ct_RULES, ct_MEMORY_EFFECTS, ct_PLAIN_EFFECTS, ct_LOOSENING, ct_UNKNOWN, f29, f30, f27, f28, f26, f32, f34, f35, f33, f1, f2, f3, f4, f5, f10, f11, f12, f13, f14, f15, f16, f17, f18, f19, f20, cC_Module, cC_Scope, cC_Level, cC_KindStack, cC_Walker, ce_Module_signatures, ce_Module_imports, ce_Module_functions, ce_Module_tables, ce_Module_memories, ce_Module_tags, ce_Module_variables, ce_Module_exports, ce_Module_table_segments, ce_Module_memory_segments, cq_MEMORY_EFFECTS_0, cq_MEMORY_EFFECTS_1, cq_MEMORY_EFFECTS_2, cq_MEMORY_EFFECTS_3, cq_PLAIN_EFFECTS_0, cq_PLAIN_EFFECTS_1, cq_PLAIN_EFFECTS_2, cq_PLAIN_EFFECTS_3, cq_PLAIN_EFFECTS_4⟩ : Cs)) := c_access_effect D_access_effect T C_Scope_need_memory
  have C_Scope_slot : CalM l.prog w K mg base (L2.CX l.prog w) (Cs.C_Scope (⟨cC_HostError, cC_CodeFault, cI_CodeFault, (PySem.W.fnOf "__init__" "CodeFault.__init__" (defArgs i_CodeFault) (defBody i_CodeFault) (defScope i_CodeFault) .none kVI_CodeFault dcI_CodeFault pmI_CodeFault anI_CodeFault cdI_CodeFault ctI_CodeFault), ct_LISTS, ct_BLOCKS, ct_ACCESS_BITS, ct_MOST_EXPONENTS, ct_RULES, ct_MEMORY_EFFECTS, ct_PLAIN_EFFECTS, ct_LOOSENING, ct_UNKNOWN, f29, f30, f27, f28, f26, f32, f34, f35, f33, f1, f2, f3, f4, f5, f10, f11, f12, f13, f14, f15, f16, f17, f18, f19, f20, cC_Module, cC_Scope, cC_Level, cC_KindStack, cC_Walker, ce_Module_signatures, ce_Module_imports, ce_Module_functions, ce_Module_tables, ce_Module_memories, ce_Module_tags, ce_Module_variables, ce_Module_exports, ce_Module_table_segments, ce_Module_memory_segments, cq_MEMORY_EFFECTS_0, cq_MEMORY_EFFECTS_1, cq_MEMORY_EFFECTS_2, cq_MEMORY_EFFECTS_3, cq_PLAIN_EFFECTS_0, cq_PLAIN_EFFECTS_1, cq_PLAIN_EFFECTS_2, cq_PLAIN_EFFECTS_3, cq_PLAIN_EFFECTS_4⟩ : Cs)) 3 "slot" (sp_Scope_slot K (⟨cC_HostError, cC_CodeFault, cI_CodeFault, (PySem.W.fnOf "__init__" "CodeFault.__init__" (defArgs i_CodeFault) (defBody i_CodeFault) (defScope i_CodeFault) .none kVI_CodeFault dcI_CodeFault pmI_CodeFault anI_CodeFault cdI_CodeFault ctI_CodeFault), ct_LISTS, ct_BLOCKS, ct_ACCESS_BITS, ct_MOST_EXPONENTS, ct_RULES, ct_MEMORY_EFFECTS, ct_PLAIN_EFFECTS, ct_LOOSENING, ct_UNKNOWN, f29, f30, f27, f28, f26, f32, f34, f35, f33, f1, f2, f3, f4, f5, f10, f11, f12, f13, f14, f15, f16, f17, f18, f19, f20, cC_Module, cC_Scope, cC_Level, cC_KindStack, cC_Walker, ce_Module_signatures, ce_Module_imports, ce_Module_functions, ce_Module_tables, ce_Module_memories, ce_Module_tags, ce_Module_variables, ce_Module_exports, ce_Module_table_segments, ce_Module_memory_segments, cq_MEMORY_EFFECTS_0, cq_MEMORY_EFFECTS_1, cq_MEMORY_EFFECTS_2, cq_MEMORY_EFFECTS_3, cq_PLAIN_EFFECTS_0, cq_PLAIN_EFFECTS_1, cq_PLAIN_EFFECTS_2, cq_PLAIN_EFFECTS_3, cq_PLAIN_EFFECTS_4⟩ : Cs)) := c_Scope_slot D_Scope_slot T 
  have C_local_get : Cal l.prog w K mg base (L2.CX l.prog w) 4 "local_get" (sp_local_get K (⟨cC_HostError, cC_CodeFault, cI_CodeFault, (PySem.W.fnOf "__init__" "CodeFault.__init__" (defArgs i_CodeFault) (defBody i_CodeFault) (defScope i_CodeFault) .none kVI_CodeFault dcI_CodeFault pmI_CodeFault anI_CodeFault cdI_CodeFault ctI_CodeFault), ct_LISTS, ct_BLOCKS, ct_ACCESS_BITS, ct_MOST_EXPONENTS, ct_RULES, ct_MEMORY_EFFECTS, ct_PLAIN_EFFECTS, ct_LOOSENING, ct_UNKNOWN, f29, f30, f27, f28, f26, f32, f34, f35, f33, f1, f2, f3, f4, f5, f10, f11, f12, f13, f14, f15, f16, f17, f18, f19, f20, cC_Module, cC_Scope, cC_Level, cC_KindStack, cC_Walker, ce_Module_signatures, ce_Module_imports, ce_Module_functions, ce_Module_tables, ce_Module_memories, ce_Module_tags, ce_Module_variables, ce_Module_exports, ce_Module_table_segments, ce_Module_memory_segments, cq_MEMORY_EFFECTS_0, cq_MEMORY_EFFECTS_1, cq_MEMORY_EFFECTS_2, cq_MEMORY_EFFECTS_3, cq_PLAIN_EFFECTS_0, cq_PLAIN_EFFECTS_1, cq_PLAIN_EFFECTS_2, cq_PLAIN_EFFECTS_3, cq_PLAIN_EFFECTS_4⟩ : Cs)) := c_local_get D_local_get T C_Scope_slot
  have C_local_set : Cal l.prog w K mg base (L2.CX l.prog w) 4 "local_set" (sp_local_set K (⟨cC_HostError, cC_CodeFault, cI_CodeFault, (PySem.W.fnOf "__init__" "CodeFault.__init__" (defArgs i_CodeFault) (defBody i_CodeFault) (defScope i_CodeFault) .none kVI_CodeFault dcI_CodeFault pmI_CodeFault anI_CodeFault cdI_CodeFault ctI_CodeFault), ct_LISTS, ct_BLOCKS, ct_ACCESS_BITS, ct_MOST_EXPONENTS, ct_RULES, ct_MEMORY_EFFECTS, ct_PLAIN_EFFECTS, ct_LOOSENING, ct_UNKNOWN, f29, f30, f27, f28, f26, f32, f34, f35, f33, f1, f2, f3, f4, f5, f10, f11, f12, f13, f14, f15, f16, f17, f18, f19, f20, cC_Module, cC_Scope, cC_Level, cC_KindStack, cC_Walker, ce_Module_signatures, ce_Module_imports, ce_Module_functions, ce_Module_tables, ce_Module_memories, ce_Module_tags, ce_Module_variables, ce_Module_exports, ce_Module_table_segments, ce_Module_memory_segments, cq_MEMORY_EFFECTS_0, cq_MEMORY_EFFECTS_1, cq_MEMORY_EFFECTS_2, cq_MEMORY_EFFECTS_3, cq_PLAIN_EFFECTS_0, cq_PLAIN_EFFECTS_1, cq_PLAIN_EFFECTS_2, cq_PLAIN_EFFECTS_3, cq_PLAIN_EFFECTS_4⟩ : Cs)) := c_local_set D_local_set T C_Scope_slot
  have C_local_tee : Cal l.prog w K mg base (L2.CX l.prog w) 4 "local_tee" (sp_local_tee K (⟨cC_HostError, cC_CodeFault, cI_CodeFault, (PySem.W.fnOf "__init__" "CodeFault.__init__" (defArgs i_CodeFault) (defBody i_CodeFault) (defScope i_CodeFault) .none kVI_CodeFault dcI_CodeFault pmI_CodeFault anI_CodeFault cdI_CodeFault ctI_CodeFault), ct_LISTS, ct_BLOCKS, ct_ACCESS_BITS, ct_MOST_EXPONENTS, ct_RULES, ct_MEMORY_EFFECTS, ct_PLAIN_EFFECTS, ct_LOOSENING, ct_UNKNOWN, f29, f30, f27, f28, f26, f32, f34, f35, f33, f1, f2, f3, f4, f5, f10, f11, f12, f13, f14, f15, f16, f17, f18, f19, f20, cC_Module, cC_Scope, cC_Level, cC_KindStack, cC_Walker, ce_Module_signatures, ce_Module_imports, ce_Module_functions, ce_Module_tables, ce_Module_memories, ce_Module_tags, ce_Module_variables, ce_Module_exports, ce_Module_table_segments, ce_Module_memory_segments, cq_MEMORY_EFFECTS_0, cq_MEMORY_EFFECTS_1, cq_MEMORY_EFFECTS_2, cq_MEMORY_EFFECTS_3, cq_PLAIN_EFFECTS_0, cq_PLAIN_EFFECTS_1, cq_PLAIN_EFFECTS_2, cq_PLAIN_EFFECTS_3, cq_PLAIN_EFFECTS_4⟩ : Cs)) := c_local_tee D_local_tee T C_Scope_slot
  have C_Scope_variable : CalM l.prog w K mg base (L2.CX l.prog w) (Cs.C_Scope (⟨cC_HostError, cC_CodeFault, cI_CodeFault, (PySem.W.fnOf "__init__" "CodeFault.__init__" (defArgs i_CodeFault) (defBody i_CodeFault) (defScope i_CodeFault) .none kVI_CodeFault dcI_CodeFault pmI_CodeFault anI_CodeFault cdI_CodeFault ctI_CodeFault), ct_LISTS, ct_BLOCKS, ct_ACCESS_BITS, ct_MOST_EXPONENTS, ct_RULES, ct_MEMORY_EFFECTS, ct_PLAIN_EFFECTS, ct_LOOSENING, ct_UNKNOWN, f29, f30, f27, f28, f26, f32, f34, f35, f33, f1, f2, f3, f4, f5, f10, f11, f12, f13, f14, f15, f16, f17, f18, f19, f20, cC_Module, cC_Scope, cC_Level, cC_KindStack, cC_Walker, ce_Module_signatures, ce_Module_imports, ce_Module_functions, ce_Module_tables, ce_Module_memories, ce_Module_tags, ce_Module_variables, ce_Module_exports, ce_Module_table_segments, ce_Module_memory_segments, cq_MEMORY_EFFECTS_0, cq_MEMORY_EFFECTS_1, cq_MEMORY_EFFECTS_2, cq_MEMORY_EFFECTS_3, cq_PLAIN_EFFECTS_0, cq_PLAIN_EFFECTS_1, cq_PLAIN_EFFECTS_2, cq_PLAIN_EFFECTS_3, cq_PLAIN_EFFECTS_4⟩ : Cs)) 3 "variable" (sp_Scope_variable K (⟨cC_HostError, cC_CodeFault, cI_CodeFault, (PySem.W.fnOf "__init__" "CodeFault.__init__" (defArgs i_CodeFault) (defBody i_CodeFault) (defScope i_CodeFault) .none kVI_CodeFault dcI_CodeFault pmI_CodeFault anI_CodeFault cdI_CodeFault ctI_CodeFault), ct_LISTS, ct_BLOCKS, ct_ACCESS_BITS, ct_MOST_EXPONENTS, ct_RULES, ct_MEMORY_EFFECTS, ct_PLAIN_EFFECTS, ct_LOOSENING, ct_UNKNOWN, f29, f30, f27, f28, f26, f32, f34, f35, f33, f1, f2, f3, f4, f5, f10, f11, f12, f13, f14, f15, f16, f17, f18, f19, f20, cC_Module, cC_Scope, cC_Level, cC_KindStack, cC_Walker, ce_Module_signatures, ce_Module_imports, ce_Module_functions, ce_Module_tables, ce_Module_memories, ce_Module_tags, ce_Module_variables, ce_Module_exports, ce_Module_table_segments, ce_Module_memory_segments, cq_MEMORY_EFFECTS_0, cq_MEMORY_EFFECTS_1, cq_MEMORY_EFFECTS_2, cq_MEMORY_EFFECTS_3, cq_PLAIN_EFFECTS_0, cq_PLAIN_EFFECTS_1, cq_PLAIN_EFFECTS_2, cq_PLAIN_EFFECTS_3, cq_PLAIN_EFFECTS_4⟩ : Cs)) := c_Scope_variable D_Scope_variable T 
  have C_global_get : Cal l.prog w K mg base (L2.CX l.prog w) 4 "global_get" (sp_global_get K (⟨cC_HostError, cC_CodeFault, cI_CodeFault, (PySem.W.fnOf "__init__" "CodeFault.__init__" (defArgs i_CodeFault) (defBody i_CodeFault) (defScope i_CodeFault) .none kVI_CodeFault dcI_CodeFault pmI_CodeFault anI_CodeFault cdI_CodeFault ctI_CodeFault), ct_LISTS, ct_BLOCKS, ct_ACCESS_BITS, ct_MOST_EXPONENTS, ct_RULES, ct_MEMORY_EFFECTS, ct_PLAIN_EFFECTS, ct_LOOSENING, ct_UNKNOWN, f29, f30, f27, f28, f26, f32, f34, f35, f33, f1, f2, f3, f4, f5, f10, f11, f12, f13, f14, f15, f16, f17, f18, f19, f20, cC_Module, cC_Scope, cC_Level, cC_KindStack, cC_Walker, ce_Module_signatures, ce_Module_imports, ce_Module_functions, ce_Module_tables, ce_Module_memories, ce_Module_tags, ce_Module_variables, ce_Module_exports, ce_Module_table_segments, ce_Module_memory_segments, cq_MEMORY_EFFECTS_0, cq_MEMORY_EFFECTS_1, cq_MEMORY_EFFECTS_2, cq_MEMORY_EFFECTS_3, cq_PLAIN_EFFECTS_0, cq_PLAIN_EFFECTS_1, cq_PLAIN_EFFECTS_2, cq_PLAIN_EFFECTS_3, cq_PLAIN_EFFECTS_4⟩ : Cs)) := c_global_get D_global_get T C_Scope_variable
  have C_global_set : Cal l.prog w K mg base (L2.CX l.prog w) 4 "global_set" (sp_global_set K (⟨cC_HostError, cC_CodeFault, cI_CodeFault, (PySem.W.fnOf "__init__" "CodeFault.__init__" (defArgs i_CodeFault) (defBody i_CodeFault) (defScope i_CodeFault) .none kVI_CodeFault dcI_CodeFault pmI_CodeFault anI_CodeFault cdI_CodeFault ctI_CodeFault), ct_LISTS, ct_BLOCKS, ct_ACCESS_BITS, ct_MOST_EXPONENTS, ct_RULES, ct_MEMORY_EFFECTS, ct_PLAIN_EFFECTS, ct_LOOSENING, ct_UNKNOWN, f29, f30, f27, f28, f26, f32, f34, f35, f33, f1, f2, f3, f4, f5, f10, f11, f12, f13, f14, f15, f16, f17, f18, f19, f20, cC_Module, cC_Scope, cC_Level, cC_KindStack, cC_Walker, ce_Module_signatures, ce_Module_imports, ce_Module_functions, ce_Module_tables, ce_Module_memories, ce_Module_tags, ce_Module_variables, ce_Module_exports, ce_Module_table_segments, ce_Module_memory_segments, cq_MEMORY_EFFECTS_0, cq_MEMORY_EFFECTS_1, cq_MEMORY_EFFECTS_2, cq_MEMORY_EFFECTS_3, cq_PLAIN_EFFECTS_0, cq_PLAIN_EFFECTS_1, cq_PLAIN_EFFECTS_2, cq_PLAIN_EFFECTS_3, cq_PLAIN_EFFECTS_4⟩ : Cs)) := c_global_set D_global_set T C_Scope_variable
  have C_br : Cal l.prog w K mg base (L2.CX l.prog w) 4 "br" (sp_br K (⟨cC_HostError, cC_CodeFault, cI_CodeFault, (PySem.W.fnOf "__init__" "CodeFault.__init__" (defArgs i_CodeFault) (defBody i_CodeFault) (defScope i_CodeFault) .none kVI_CodeFault dcI_CodeFault pmI_CodeFault anI_CodeFault cdI_CodeFault ctI_CodeFault), ct_LISTS, ct_BLOCKS, ct_ACCESS_BITS, ct_MOST_EXPONENTS, ct_RULES, ct_MEMORY_EFFECTS, ct_PLAIN_EFFECTS, ct_LOOSENING, ct_UNKNOWN, f29, f30, f27, f28, f26, f32, f34, f35, f33, f1, f2, f3, f4, f5, f10, f11, f12, f13, f14, f15, f16, f17, f18, f19, f20, cC_Module, cC_Scope, cC_Level, cC_KindStack, cC_Walker, ce_Module_signatures, ce_Module_imports, ce_Module_functions, ce_Module_tables, ce_Module_memories, ce_Module_tags, ce_Module_variables, ce_Module_exports, ce_Module_table_segments, ce_Module_memory_segments, cq_MEMORY_EFFECTS_0, cq_MEMORY_EFFECTS_1, cq_MEMORY_EFFECTS_2, cq_MEMORY_EFFECTS_3, cq_PLAIN_EFFECTS_0, cq_PLAIN_EFFECTS_1, cq_PLAIN_EFFECTS_2, cq_PLAIN_EFFECTS_3, cq_PLAIN_EFFECTS_4⟩ : Cs)) := c_br D_br T C_Scope_label
  have C_br_if : Cal l.prog w K mg base (L2.CX l.prog w) 4 "br_if" (sp_br_if K (⟨cC_HostError, cC_CodeFault, cI_CodeFault, (PySem.W.fnOf "__init__" "CodeFault.__init__" (defArgs i_CodeFault) (defBody i_CodeFault) (defScope i_CodeFault) .none kVI_CodeFault dcI_CodeFault pmI_CodeFault anI_CodeFault cdI_CodeFault ctI_CodeFault), ct_LISTS, ct_BLOCKS, ct_ACCESS_BITS, ct_MOST_EXPONENTS, ct_RULES, ct_MEMORY_EFFECTS, ct_PLAIN_EFFECTS, ct_LOOSENING, ct_UNKNOWN, f29, f30, f27, f28, f26, f32, f34, f35, f33, f1, f2, f3, f4, f5, f10, f11, f12, f13, f14, f15, f16, f17, f18, f19, f20, cC_Module, cC_Scope, cC_Level, cC_KindStack, cC_Walker, ce_Module_signatures, ce_Module_imports, ce_Module_functions, ce_Module_tables, ce_Module_memories, ce_Module_tags, ce_Module_variables, ce_Module_exports, ce_Module_table_segments, ce_Module_memory_segments, cq_MEMORY_EFFECTS_0, cq_MEMORY_EFFECTS_1, cq_MEMORY_EFFECTS_2, cq_MEMORY_EFFECTS_3, cq_PLAIN_EFFECTS_0, cq_PLAIN_EFFECTS_1, cq_PLAIN_EFFECTS_2, cq_PLAIN_EFFECTS_3, cq_PLAIN_EFFECTS_4⟩ : Cs)) := c_br_if D_br_if T C_Scope_label
  have C_return_effect : Cal l.prog w K mg base (L2.CX l.prog w) 1 "return_effect" (sp_return_effect K (⟨cC_HostError, cC_CodeFault, cI_CodeFault, (PySem.W.fnOf "__init__" "CodeFault.__init__" (defArgs i_CodeFault) (defBody i_CodeFault) (defScope i_CodeFault) .none kVI_CodeFault dcI_CodeFault pmI_CodeFault anI_CodeFault cdI_CodeFault ctI_CodeFault), ct_LISTS, ct_BLOCKS, ct_ACCESS_BITS, ct_MOST_EXPONENTS, ct_RULES, ct_MEMORY_EFFECTS, ct_PLAIN_EFFECTS, ct_LOOSENING, ct_UNKNOWN, f29, f30, f27, f28, f26, f32, f34, f35, f33, f1, f2, f3, f4, f5, f10, f11, f12, f13, f14, f15, f16, f17, f18, f19, f20, cC_Module, cC_Scope, cC_Level, cC_KindStack, cC_Walker, ce_Module_signatures, ce_Module_imports, ce_Module_functions, ce_Module_tables, ce_Module_memories, ce_Module_tags, ce_Module_variables, ce_Module_exports, ce_Module_table_segments, ce_Module_memory_segments, cq_MEMORY_EFFECTS_0, cq_MEMORY_EFFECTS_1, cq_MEMORY_EFFECTS_2, cq_MEMORY_EFFECTS_3, cq_PLAIN_EFFECTS_0, cq_PLAIN_EFFECTS_1, cq_PLAIN_EFFECTS_2, cq_PLAIN_EFFECTS_3, cq_PLAIN_EFFECTS_4⟩ : Cs)) := c_return_effect D_return_effect T 
  have C_Scope_function : CalM l.prog w K mg base (L2.CX l.prog w) (Cs.C_Scope (⟨cC_HostError, cC_CodeFault, cI_CodeFault, (PySem.W.fnOf "__init__" "CodeFault.__init__" (defArgs i_CodeFault) (defBody i_CodeFault) (defScope i_CodeFault) .none kVI_CodeFault dcI_CodeFault pmI_CodeFault anI_CodeFault cdI_CodeFault ctI_CodeFault), ct_LISTS, ct_BLOCKS, ct_ACCESS_BITS, ct_MOST_EXPONENTS, ct_RULES, ct_MEMORY_EFFECTS, ct_PLAIN_EFFECTS, ct_LOOSENING, ct_UNKNOWN, f29, f30, f27, f28, f26, f32, f34, f35, f33, f1, f2, f3, f4, f5, f10, f11, f12, f13, f14, f15, f16, f17, f18, f19, f20, cC_Module, cC_Scope, cC_Level, cC_KindStack, cC_Walker, ce_Module_signatures, ce_Module_imports, ce_Module_functions, ce_Module_tables, ce_Module_memories, ce_Module_tags, ce_Module_variables, ce_Module_exports, ce_Module_table_segments, ce_Module_memory_segments, cq_MEMORY_EFFECTS_0, cq_MEMORY_EFFECTS_1, cq_MEMORY_EFFECTS_2, cq_MEMORY_EFFECTS_3, cq_PLAIN_EFFECTS_0, cq_PLAIN_EFFECTS_1, cq_PLAIN_EFFECTS_2, cq_PLAIN_EFFECTS_3, cq_PLAIN_EFFECTS_4⟩ : Cs)) 3 "function" (sp_Scope_function K (⟨cC_HostError, cC_CodeFault, cI_CodeFault, (PySem.W.fnOf "__init__" "CodeFault.__init__" (defArgs i_CodeFault) (defBody i_CodeFault) (defScope i_CodeFault) .none kVI_CodeFault dcI_CodeFault pmI_CodeFault anI_CodeFault cdI_CodeFault ctI_CodeFault), ct_LISTS, ct_BLOCKS, ct_ACCESS_BITS, ct_MOST_EXPONENTS, ct_RULES, ct_MEMORY_EFFECTS, ct_PLAIN_EFFECTS, ct_LOOSENING, ct_UNKNOWN, f29, f30, f27, f28, f26, f32, f34, f35, f33, f1, f2, f3, f4, f5, f10, f11, f12, f13, f14, f15, f16, f17, f18, f19, f20, cC_Module, cC_Scope, cC_Level, cC_KindStack, cC_Walker, ce_Module_signatures, ce_Module_imports, ce_Module_functions, ce_Module_tables, ce_Module_memories, ce_Module_tags, ce_Module_variables, ce_Module_exports, ce_Module_table_segments, ce_Module_memory_segments, cq_MEMORY_EFFECTS_0, cq_MEMORY_EFFECTS_1, cq_MEMORY_EFFECTS_2, cq_MEMORY_EFFECTS_3, cq_PLAIN_EFFECTS_0, cq_PLAIN_EFFECTS_1, cq_PLAIN_EFFECTS_2, cq_PLAIN_EFFECTS_3, cq_PLAIN_EFFECTS_4⟩ : Cs)) := c_Scope_function D_Scope_function T 
  have C_call : Cal l.prog w K mg base (L2.CX l.prog w) 4 "call" (sp_call K (⟨cC_HostError, cC_CodeFault, cI_CodeFault, (PySem.W.fnOf "__init__" "CodeFault.__init__" (defArgs i_CodeFault) (defBody i_CodeFault) (defScope i_CodeFault) .none kVI_CodeFault dcI_CodeFault pmI_CodeFault anI_CodeFault cdI_CodeFault ctI_CodeFault), ct_LISTS, ct_BLOCKS, ct_ACCESS_BITS, ct_MOST_EXPONENTS, ct_RULES, ct_MEMORY_EFFECTS, ct_PLAIN_EFFECTS, ct_LOOSENING, ct_UNKNOWN, f29, f30, f27, f28, f26, f32, f34, f35, f33, f1, f2, f3, f4, f5, f10, f11, f12, f13, f14, f15, f16, f17, f18, f19, f20, cC_Module, cC_Scope, cC_Level, cC_KindStack, cC_Walker, ce_Module_signatures, ce_Module_imports, ce_Module_functions, ce_Module_tables, ce_Module_memories, ce_Module_tags, ce_Module_variables, ce_Module_exports, ce_Module_table_segments, ce_Module_memory_segments, cq_MEMORY_EFFECTS_0, cq_MEMORY_EFFECTS_1, cq_MEMORY_EFFECTS_2, cq_MEMORY_EFFECTS_3, cq_PLAIN_EFFECTS_0, cq_PLAIN_EFFECTS_1, cq_PLAIN_EFFECTS_2, cq_PLAIN_EFFECTS_3, cq_PLAIN_EFFECTS_4⟩ : Cs)) := c_call D_call T C_Scope_function
  have C_Scope_need_table : CalM l.prog w K mg base (L2.CX l.prog w) (Cs.C_Scope (⟨cC_HostError, cC_CodeFault, cI_CodeFault, (PySem.W.fnOf "__init__" "CodeFault.__init__" (defArgs i_CodeFault) (defBody i_CodeFault) (defScope i_CodeFault) .none kVI_CodeFault dcI_CodeFault pmI_CodeFault anI_CodeFault cdI_CodeFault ctI_CodeFault), ct_LISTS, ct_BLOCKS, ct_ACCESS_BITS, ct_MOST_EXPONENTS, ct_RULES, ct_MEMORY_EFFECTS, ct_PLAIN_EFFECTS, ct_LOOSENING, ct_UNKNOWN, f29, f30, f27, f28, f26, f32, f34, f35, f33, f1, f2, f3, f4, f5, f10, f11, f12, f13, f14, f15, f16, f17, f18, f19, f20, cC_Module, cC_Scope, cC_Level, cC_KindStack, cC_Walker, ce_Module_signatures, ce_Module_imports, ce_Module_functions, ce_Module_tables, ce_Module_memories, ce_Module_tags, ce_Module_variables, ce_Module_exports, ce_Module_table_segments, ce_Module_memory_segments, cq_MEMORY_EFFECTS_0, cq_MEMORY_EFFECTS_1, cq_MEMORY_EFFECTS_2, cq_MEMORY_EFFECTS_3, cq_PLAIN_EFFECTS_0, cq_PLAIN_EFFECTS_1, cq_PLAIN_EFFECTS_2, cq_PLAIN_EFFECTS_3, cq_PLAIN_EFFECTS_4⟩ : Cs)) 3 "need_table" (sp_Scope_need_table K (⟨cC_HostError, cC_CodeFault, cI_CodeFault, (PySem.W.fnOf "__init__" "CodeFault.__init__" (defArgs i_CodeFault) (defBody i_CodeFault) (defScope i_CodeFault) .none kVI_CodeFault dcI_CodeFault pmI_CodeFault anI_CodeFault cdI_CodeFault ctI_CodeFault), ct_LISTS, ct_BLOCKS, ct_ACCESS_BITS, ct_MOST_EXPONENTS, ct_RULES, ct_MEMORY_EFFECTS, ct_PLAIN_EFFECTS, ct_LOOSENING, ct_UNKNOWN, f29, f30, f27, f28, f26, f32, f34, f35, f33, f1, f2, f3, f4, f5, f10, f11, f12, f13, f14, f15, f16, f17, f18, f19, f20, cC_Module, cC_Scope, cC_Level, cC_KindStack, cC_Walker, ce_Module_signatures, ce_Module_imports, ce_Module_functions, ce_Module_tables, ce_Module_memories, ce_Module_tags, ce_Module_variables, ce_Module_exports, ce_Module_table_segments, ce_Module_memory_segments, cq_MEMORY_EFFECTS_0, cq_MEMORY_EFFECTS_1, cq_MEMORY_EFFECTS_2, cq_MEMORY_EFFECTS_3, cq_PLAIN_EFFECTS_0, cq_PLAIN_EFFECTS_1, cq_PLAIN_EFFECTS_2, cq_PLAIN_EFFECTS_3, cq_PLAIN_EFFECTS_4⟩ : Cs)) := c_Scope_need_table D_Scope_need_table T 
  have C_Scope_signature : CalM l.prog w K mg base (L2.CX l.prog w) (Cs.C_Scope (⟨cC_HostError, cC_CodeFault, cI_CodeFault, (PySem.W.fnOf "__init__" "CodeFault.__init__" (defArgs i_CodeFault) (defBody i_CodeFault) (defScope i_CodeFault) .none kVI_CodeFault dcI_CodeFault pmI_CodeFault anI_CodeFault cdI_CodeFault ctI_CodeFault), ct_LISTS, ct_BLOCKS, ct_ACCESS_BITS, ct_MOST_EXPONENTS, ct_RULES, ct_MEMORY_EFFECTS, ct_PLAIN_EFFECTS, ct_LOOSENING, ct_UNKNOWN, f29, f30, f27, f28, f26, f32, f34, f35, f33, f1, f2, f3, f4, f5, f10, f11, f12, f13, f14, f15, f16, f17, f18, f19, f20, cC_Module, cC_Scope, cC_Level, cC_KindStack, cC_Walker, ce_Module_signatures, ce_Module_imports, ce_Module_functions, ce_Module_tables, ce_Module_memories, ce_Module_tags, ce_Module_variables, ce_Module_exports, ce_Module_table_segments, ce_Module_memory_segments, cq_MEMORY_EFFECTS_0, cq_MEMORY_EFFECTS_1, cq_MEMORY_EFFECTS_2, cq_MEMORY_EFFECTS_3, cq_PLAIN_EFFECTS_0, cq_PLAIN_EFFECTS_1, cq_PLAIN_EFFECTS_2, cq_PLAIN_EFFECTS_3, cq_PLAIN_EFFECTS_4⟩ : Cs)) 3 "signature" (sp_Scope_signature K (⟨cC_HostError, cC_CodeFault, cI_CodeFault, (PySem.W.fnOf "__init__" "CodeFault.__init__" (defArgs i_CodeFault) (defBody i_CodeFault) (defScope i_CodeFault) .none kVI_CodeFault dcI_CodeFault pmI_CodeFault anI_CodeFault cdI_CodeFault ctI_CodeFault), ct_LISTS, ct_BLOCKS, ct_ACCESS_BITS, ct_MOST_EXPONENTS, ct_RULES, ct_MEMORY_EFFECTS, ct_PLAIN_EFFECTS, ct_LOOSENING, ct_UNKNOWN, f29, f30, f27, f28, f26, f32, f34, f35, f33, f1, f2, f3, f4, f5, f10, f11, f12, f13, f14, f15, f16, f17, f18, f19, f20, cC_Module, cC_Scope, cC_Level, cC_KindStack, cC_Walker, ce_Module_signatures, ce_Module_imports, ce_Module_functions, ce_Module_tables, ce_Module_memories, ce_Module_tags, ce_Module_variables, ce_Module_exports, ce_Module_table_segments, ce_Module_memory_segments, cq_MEMORY_EFFECTS_0, cq_MEMORY_EFFECTS_1, cq_MEMORY_EFFECTS_2, cq_MEMORY_EFFECTS_3, cq_PLAIN_EFFECTS_0, cq_PLAIN_EFFECTS_1, cq_PLAIN_EFFECTS_2, cq_PLAIN_EFFECTS_3, cq_PLAIN_EFFECTS_4⟩ : Cs)) := c_Scope_signature D_Scope_signature T 
  have C_call_indirect : Cal l.prog w K mg base (L2.CX l.prog w) 4 "call_indirect" (sp_call_indirect K (⟨cC_HostError, cC_CodeFault, cI_CodeFault, (PySem.W.fnOf "__init__" "CodeFault.__init__" (defArgs i_CodeFault) (defBody i_CodeFault) (defScope i_CodeFault) .none kVI_CodeFault dcI_CodeFault pmI_CodeFault anI_CodeFault cdI_CodeFault ctI_CodeFault), ct_LISTS, ct_BLOCKS, ct_ACCESS_BITS, ct_MOST_EXPONENTS, ct_RULES, ct_MEMORY_EFFECTS, ct_PLAIN_EFFECTS, ct_LOOSENING, ct_UNKNOWN, f29, f30, f27, f28, f26, f32, f34, f35, f33, f1, f2, f3, f4, f5, f10, f11, f12, f13, f14, f15, f16, f17, f18, f19, f20, cC_Module, cC_Scope, cC_Level, cC_KindStack, cC_Walker, ce_Module_signatures, ce_Module_imports, ce_Module_functions, ce_Module_tables, ce_Module_memories, ce_Module_tags, ce_Module_variables, ce_Module_exports, ce_Module_table_segments, ce_Module_memory_segments, cq_MEMORY_EFFECTS_0, cq_MEMORY_EFFECTS_1, cq_MEMORY_EFFECTS_2, cq_MEMORY_EFFECTS_3, cq_PLAIN_EFFECTS_0, cq_PLAIN_EFFECTS_1, cq_PLAIN_EFFECTS_2, cq_PLAIN_EFFECTS_3, cq_PLAIN_EFFECTS_4⟩ : Cs)) := c_call_indirect D_call_indirect T C_Scope_need_table C_Scope_signature
  have C_throw : Cal l.prog w K mg base (L2.CX l.prog w) 4 "throw" (sp_throw K (⟨cC_HostError, cC_CodeFault, cI_CodeFault, (PySem.W.fnOf "__init__" "CodeFault.__init__" (defArgs i_CodeFault) (defBody i_CodeFault) (defScope i_CodeFault) .none kVI_CodeFault dcI_CodeFault pmI_CodeFault anI_CodeFault cdI_CodeFault ctI_CodeFault), ct_LISTS, ct_BLOCKS, ct_ACCESS_BITS, ct_MOST_EXPONENTS, ct_RULES, ct_MEMORY_EFFECTS, ct_PLAIN_EFFECTS, ct_LOOSENING, ct_UNKNOWN, f29, f30, f27, f28, f26, f32, f34, f35, f33, f1, f2, f3, f4, f5, f10, f11, f12, f13, f14, f15, f16, f17, f18, f19, f20, cC_Module, cC_Scope, cC_Level, cC_KindStack, cC_Walker, ce_Module_signatures, ce_Module_imports, ce_Module_functions, ce_Module_tables, ce_Module_memories, ce_Module_tags, ce_Module_variables, ce_Module_exports, ce_Module_table_segments, ce_Module_memory_segments, cq_MEMORY_EFFECTS_0, cq_MEMORY_EFFECTS_1, cq_MEMORY_EFFECTS_2, cq_MEMORY_EFFECTS_3, cq_PLAIN_EFFECTS_0, cq_PLAIN_EFFECTS_1, cq_PLAIN_EFFECTS_2, cq_PLAIN_EFFECTS_3, cq_PLAIN_EFFECTS_4⟩ : Cs)) := c_throw D_throw T C_Scope_tag
  have C_effect_of : Cal l.prog w K mg base (L2.CX l.prog w) 5 "effect_of" (sp_effect_of K (⟨cC_HostError, cC_CodeFault, cI_CodeFault, (PySem.W.fnOf "__init__" "CodeFault.__init__" (defArgs i_CodeFault) (defBody i_CodeFault) (defScope i_CodeFault) .none kVI_CodeFault dcI_CodeFault pmI_CodeFault anI_CodeFault cdI_CodeFault ctI_CodeFault), ct_LISTS, ct_BLOCKS, ct_ACCESS_BITS, ct_MOST_EXPONENTS, ct_RULES, ct_MEMORY_EFFECTS, ct_PLAIN_EFFECTS, ct_LOOSENING, ct_UNKNOWN, f29, f30, f27, f28, f26, f32, f34, f35, f33, f1, f2, f3, f4, f5, f10, f11, f12, f13, f14, f15, f16, f17, f18, f19, f20, cC_Module, cC_Scope, cC_Level, cC_KindStack, cC_Walker, ce_Module_signatures, ce_Module_imports, ce_Module_functions, ce_Module_tables, ce_Module_memories, ce_Module_tags, ce_Module_variables, ce_Module_exports, ce_Module_table_segments, ce_Module_memory_segments, cq_MEMORY_EFFECTS_0, cq_MEMORY_EFFECTS_1, cq_MEMORY_EFFECTS_2, cq_MEMORY_EFFECTS_3, cq_PLAIN_EFFECTS_0, cq_PLAIN_EFFECTS_1, cq_PLAIN_EFFECTS_2, cq_PLAIN_EFFECTS_3, cq_PLAIN_EFFECTS_4⟩ : Cs)) := c_effect_of D_effect_of T C_access_effect C_Scope_need_memory C_local_get C_local_set C_local_tee C_global_get C_global_set C_br C_br_if C_return_effect C_call C_call_indirect C_throw
  have C_Walker_walk_body : CalM l.prog w K mg base (L2.CX l.prog w) (Cs.C_Walker (⟨cC_HostError, cC_CodeFault, cI_CodeFault, (PySem.W.fnOf "__init__" "CodeFault.__init__" (defArgs i_CodeFault) (defBody i_CodeFault) (defScope i_CodeFault) .none kVI_CodeFault dcI_CodeFault pmI_CodeFault anI_CodeFault cdI_CodeFault ctI_CodeFault), ct_LISTS, ct_BLOCKS, ct_ACCESS_BITS, ct_MOST_EXPONENTS, ct_RULES, ct_MEMORY_EFFECTS, ct_PLAIN_EFFECTS, ct_LOOSENING, ct_UNKNOWN, f29, f30, f27, f28, f26, f32, f34, f35, f33, f1, f2, f3, f4, f5, f10, f11, f12, f13, f14, f15, f16, f17, f18, f19, f20, cC_Module, cC_Scope, cC_Level, cC_KindStack, cC_Walker, ce_Module_signatures, ce_Module_imports, ce_Module_functions, ce_Module_tables, ce_Module_memories, ce_Module_tags, ce_Module_variables, ce_Module_exports, ce_Module_table_segments, ce_Module_memory_segments, cq_MEMORY_EFFECTS_0, cq_MEMORY_EFFECTS_1, cq_MEMORY_EFFECTS_2, cq_MEMORY_EFFECTS_3, cq_PLAIN_EFFECTS_0, cq_PLAIN_EFFECTS_1, cq_PLAIN_EFFECTS_2, cq_PLAIN_EFFECTS_3, cq_PLAIN_EFFECTS_4⟩ : Cs)) 33 "walk_body" (sp_Walker_walk_body K (⟨cC_HostError, cC_CodeFault, cI_CodeFault, (PySem.W.fnOf "__init__" "CodeFault.__init__" (defArgs i_CodeFault) (defBody i_CodeFault) (defScope i_CodeFault) .none kVI_CodeFault dcI_CodeFault pmI_CodeFault anI_CodeFault cdI_CodeFault ctI_CodeFault), ct_LISTS, ct_BLOCKS, ct_ACCESS_BITS, ct_MOST_EXPONENTS, ct_RULES, ct_MEMORY_EFFECTS, ct_PLAIN_EFFECTS, ct_LOOSENING, ct_UNKNOWN, f29, f30, f27, f28, f26, f32, f34, f35, f33, f1, f2, f3, f4, f5, f10, f11, f12, f13, f14, f15, f16, f17, f18, f19, f20, cC_Module, cC_Scope, cC_Level, cC_KindStack, cC_Walker, ce_Module_signatures, ce_Module_imports, ce_Module_functions, ce_Module_tables, ce_Module_memories, ce_Module_tags, ce_Module_variables, ce_Module_exports, ce_Module_table_segments, ce_Module_memory_segments, cq_MEMORY_EFFECTS_0, cq_MEMORY_EFFECTS_1, cq_MEMORY_EFFECTS_2, cq_MEMORY_EFFECTS_3, cq_PLAIN_EFFECTS_0, cq_PLAIN_EFFECTS_1, cq_PLAIN_EFFECTS_2, cq_PLAIN_EFFECTS_3, cq_PLAIN_EFFECTS_4⟩ : Cs) 8) := c_Walker_walk_body D_Walker_walk_body D_Walker_walk_block D_Walker_walk_instruction T C_KindStack_enter C_Walker_mark C_KindStack_leave C_Scope_shape C_KindStack_take C_bodies_of C_KindStack_put C_Walker_check_catch C_KindStack_loosen C_Walker_choose C_Walker_branch_by_table C_effect_of 8
  have C_Walker_walk : CalM l.prog w K mg base CX0 (Cs.C_Walker (⟨cC_HostError, cC_CodeFault, cI_CodeFault, (PySem.W.fnOf "__init__" "CodeFault.__init__" (defArgs i_CodeFault) (defBody i_CodeFault) (defScope i_CodeFault) .none kVI_CodeFault dcI_CodeFault pmI_CodeFault anI_CodeFault cdI_CodeFault ctI_CodeFault), ct_LISTS, ct_BLOCKS, ct_ACCESS_BITS, ct_MOST_EXPONENTS, ct_RULES, ct_MEMORY_EFFECTS, ct_PLAIN_EFFECTS, ct_LOOSENING, ct_UNKNOWN, f29, f30, f27, f28, f26, f32, f34, f35, f33, f1, f2, f3, f4, f5, f10, f11, f12, f13, f14, f15, f16, f17, f18, f19, f20, cC_Module, cC_Scope, cC_Level, cC_KindStack, cC_Walker, ce_Module_signatures, ce_Module_imports, ce_Module_functions, ce_Module_tables, ce_Module_memories, ce_Module_tags, ce_Module_variables, ce_Module_exports, ce_Module_table_segments, ce_Module_memory_segments, cq_MEMORY_EFFECTS_0, cq_MEMORY_EFFECTS_1, cq_MEMORY_EFFECTS_2, cq_MEMORY_EFFECTS_3, cq_PLAIN_EFFECTS_0, cq_PLAIN_EFFECTS_1, cq_PLAIN_EFFECTS_2, cq_PLAIN_EFFECTS_3, cq_PLAIN_EFFECTS_4⟩ : Cs)) 34 "walk" (sp_Walker_walk K (⟨cC_HostError, cC_CodeFault, cI_CodeFault, (PySem.W.fnOf "__init__" "CodeFault.__init__" (defArgs i_CodeFault) (defBody i_CodeFault) (defScope i_CodeFault) .none kVI_CodeFault dcI_CodeFault pmI_CodeFault anI_CodeFault cdI_CodeFault ctI_CodeFault), ct_LISTS, ct_BLOCKS, ct_ACCESS_BITS, ct_MOST_EXPONENTS, ct_RULES, ct_MEMORY_EFFECTS, ct_PLAIN_EFFECTS, ct_LOOSENING, ct_UNKNOWN, f29, f30, f27, f28, f26, f32, f34, f35, f33, f1, f2, f3, f4, f5, f10, f11, f12, f13, f14, f15, f16, f17, f18, f19, f20, cC_Module, cC_Scope, cC_Level, cC_KindStack, cC_Walker, ce_Module_signatures, ce_Module_imports, ce_Module_functions, ce_Module_tables, ce_Module_memories, ce_Module_tags, ce_Module_variables, ce_Module_exports, ce_Module_table_segments, ce_Module_memory_segments, cq_MEMORY_EFFECTS_0, cq_MEMORY_EFFECTS_1, cq_MEMORY_EFFECTS_2, cq_MEMORY_EFFECTS_3, cq_PLAIN_EFFECTS_0, cq_PLAIN_EFFECTS_1, cq_PLAIN_EFFECTS_2, cq_PLAIN_EFFECTS_3, cq_PLAIN_EFFECTS_4⟩ : Cs)) := c_Walker_walk D_Walker_walk T C_Walker_walk_body
  have C_walk_through : Cal l.prog w K mg base CX0 35 "walk_through" (sp_walk_through K (⟨cC_HostError, cC_CodeFault, cI_CodeFault, (PySem.W.fnOf "__init__" "CodeFault.__init__" (defArgs i_CodeFault) (defBody i_CodeFault) (defScope i_CodeFault) .none kVI_CodeFault dcI_CodeFault pmI_CodeFault anI_CodeFault cdI_CodeFault ctI_CodeFault), ct_LISTS, ct_BLOCKS, ct_ACCESS_BITS, ct_MOST_EXPONENTS, ct_RULES, ct_MEMORY_EFFECTS, ct_PLAIN_EFFECTS, ct_LOOSENING, ct_UNKNOWN, f29, f30, f27, f28, f26, f32, f34, f35, f33, f1, f2, f3, f4, f5, f10, f11, f12, f13, f14, f15, f16, f17, f18, f19, f20, cC_Module, cC_Scope, cC_Level, cC_KindStack, cC_Walker, ce_Module_signatures, ce_Module_imports, ce_Module_functions, ce_Module_tables, ce_Module_memories, ce_Module_tags, ce_Module_variables, ce_Module_exports, ce_Module_table_segments, ce_Module_memory_segments, cq_MEMORY_EFFECTS_0, cq_MEMORY_EFFECTS_1, cq_MEMORY_EFFECTS_2, cq_MEMORY_EFFECTS_3, cq_PLAIN_EFFECTS_0, cq_PLAIN_EFFECTS_1, cq_PLAIN_EFFECTS_2, cq_PLAIN_EFFECTS_3, cq_PLAIN_EFFECTS_4⟩ : Cs)) := c_walk_through D_walk_through T C_Walker___init__ C_Walker_walk
  have C_code_fault : Cal l.prog w K mg base CX0 36 "code_fault" (sp_code_fault K (⟨cC_HostError, cC_CodeFault, cI_CodeFault, (PySem.W.fnOf "__init__" "CodeFault.__init__" (defArgs i_CodeFault) (defBody i_CodeFault) (defScope i_CodeFault) .none kVI_CodeFault dcI_CodeFault pmI_CodeFault anI_CodeFault cdI_CodeFault ctI_CodeFault), ct_LISTS, ct_BLOCKS, ct_ACCESS_BITS, ct_MOST_EXPONENTS, ct_RULES, ct_MEMORY_EFFECTS, ct_PLAIN_EFFECTS, ct_LOOSENING, ct_UNKNOWN, f29, f30, f27, f28, f26, f32, f34, f35, f33, f1, f2, f3, f4, f5, f10, f11, f12, f13, f14, f15, f16, f17, f18, f19, f20, cC_Module, cC_Scope, cC_Level, cC_KindStack, cC_Walker, ce_Module_signatures, ce_Module_imports, ce_Module_functions, ce_Module_tables, ce_Module_memories, ce_Module_tags, ce_Module_variables, ce_Module_exports, ce_Module_table_segments, ce_Module_memory_segments, cq_MEMORY_EFFECTS_0, cq_MEMORY_EFFECTS_1, cq_MEMORY_EFFECTS_2, cq_MEMORY_EFFECTS_3, cq_PLAIN_EFFECTS_0, cq_PLAIN_EFFECTS_1, cq_PLAIN_EFFECTS_2, cq_PLAIN_EFFECTS_3, cq_PLAIN_EFFECTS_4⟩ : Cs)) := c_code_fault D_code_fault T C_walk_through
  have C_check : Cal l.prog w K mg base CX0 37 "check" (sp_check K (⟨cC_HostError, cC_CodeFault, cI_CodeFault, (PySem.W.fnOf "__init__" "CodeFault.__init__" (defArgs i_CodeFault) (defBody i_CodeFault) (defScope i_CodeFault) .none kVI_CodeFault dcI_CodeFault pmI_CodeFault anI_CodeFault cdI_CodeFault ctI_CodeFault), ct_LISTS, ct_BLOCKS, ct_ACCESS_BITS, ct_MOST_EXPONENTS, ct_RULES, ct_MEMORY_EFFECTS, ct_PLAIN_EFFECTS, ct_LOOSENING, ct_UNKNOWN, f29, f30, f27, f28, f26, f32, f34, f35, f33, f1, f2, f3, f4, f5, f10, f11, f12, f13, f14, f15, f16, f17, f18, f19, f20, cC_Module, cC_Scope, cC_Level, cC_KindStack, cC_Walker, ce_Module_signatures, ce_Module_imports, ce_Module_functions, ce_Module_tables, ce_Module_memories, ce_Module_tags, ce_Module_variables, ce_Module_exports, ce_Module_table_segments, ce_Module_memory_segments, cq_MEMORY_EFFECTS_0, cq_MEMORY_EFFECTS_1, cq_MEMORY_EFFECTS_2, cq_MEMORY_EFFECTS_3, cq_PLAIN_EFFECTS_0, cq_PLAIN_EFFECTS_1, cq_PLAIN_EFFECTS_2, cq_PLAIN_EFFECTS_3, cq_PLAIN_EFFECTS_4⟩ : Cs)) := c_check D_check T C_first_fault C_memory_count_fault C_export_fault C_start_fault C_code_fault
  exact c_law F46 T C__law_state C__law_case C__law_draw C_Module___init__ C_check
theorem walk {l : PySem.W.OpenLaw} {q : Program} {loose : List Str} {XP : (Str → Option Value) → Heap → Prop} {YP : World → Heap → Prop} {d : DefRec} {K : Params → PySem.W.Frag} (hn : l.most = some 63) (hdf : d.params.defaults = [])
    (hY : ∀ (w : World) (h : Heap), YP w h → (K w.params).In h)
    (F : ∀ (w : World) (mg : Str → Option Value) (fa : Addr) (h : Heap), (K w.params).In h → h.Ns mainGlobals mg → mg d.name = some (.ref fa) →
      ∃ fd : FuncData, (∀ (s : Shared) (u : Value), BindsTo s fd ⟨[u], []⟩ [("script", u)]) ∧ ∀ base : Heap, (K w.params).In base → base.Ns mainGlobals mg → FnOk l.prog w (K w.params) mg base CX0 38 fa fd ["script"] (sp_lawK (K w.params))) :
    PySem.W.WalkO q loose XP YP l.row.toRowW d [] (fun f vs => PySem.call f vs) :=
  L2.walk_of (n := 63) (k := 38) (x := "script") (CX := fun _ => CX0) (sp := fun w => sp_lawK (K w.params)) hn (by decide) hdf ⟨rfl, by decide, by decide⟩ hY F (fun _ _ a ns hl _ hS => ⟨a, ns, rfl, hS, hl, fun _ => rfl⟩) fun _ _ _ _ _ z => z
end V
open PySem PySem.W PyProof.Rows
set_option maxRecDepth 100000 in
set_option maxHeartbeats 0 in
theorem PySem.Challenge.cw_wasmhost_k38_memory_instructions_holds : PySem.Challenge.rw_wasmhost_k38_memory_instructions.Holds := by
  w_on; o_law
  refine HandSHeadRun.head_any (r := Hd.R) (q := Hd.qv) (H := Hd.HK) (ob := Hd.ob) (M := 9000) (loose := Hd.names) Hd.ob_eq Hd.opn Hd.fen Hd.run (by rfl) (by rfl) (by rfl) (by rfl) (by first | assumption | decide +kernel) (by decide +kernel) ⟨rfl, rfl, rfl, rfl, rfl, by decide +kernel⟩ ?hw ?hc
  (case hw => w_witness2)
  refine V.walk (l := PySem.Challenge.rw_wasmhost_k38_memory_instructions) rfl rfl (fun w h Y => PySem.W.kIn_of Y) ?F
  case F =>
    intro w mg fa h KX G hmg
    refine' V.all_mk KX G hmg ?a0 ?l0 ?c0 ?k0 ?a1 ?l1 ?c1 ?k1 ?a2 ?l2 ?c2 ?k2 ?a3 ?l3 ?c3 ?k3 ?a4 ?l4 ?c4 ?k4 ?a5 ?l5 ?c5 ?k5 ?a6 ?l6 ?c6 ?k6 ?a7 ?l7 ?c7 ?k7 ?a8 ?l8 ?c8 ?k8 ?a9 ?l9 ?c9 ?k9 ?a10 ?l10 ?c10 ?k10 ?a11 ?l11 ?c11 ?k11 ?a12 ?l12 ?c12 ?k12 ?a13 ?l13 ?c13 ?k13 ?a14 ?l14 ?c14 ?k14 ?a15 ?l15 ?c15 ?k15 ?a16 ?l16 ?c16 ?k16 ?a17 ?l17 ?c17 ?k17 ?a18 ?l18 ?c18 ?k18 ?a19 ?l19 ?c19 ?k19 ?a20 ?l20 ?c20 ?k20 ?a21 ?l21 ?c21 ?k21 ?a22 ?l22 ?c22 ?k22 ?a23 ?l23 ?c23 ?k23 ?a24 ?l24 ?c24 ?k24 ?a25 ?l25 ?c25 ?k25 ?a26 ?l26 ?c26 ?k26 ?a27 ?l27 ?c27 ?k27 ?a28 ?l28 ?c28 ?k28 ?a29 ?l29 ?c29 ?k29 ?a30 ?l30 ?c30 ?k30 ?a31 ?l31 ?c31 ?k31 ?a32 ?l32 ?c32 ?k32 ?a33 ?l33 ?c33 ?k33 ?a34 ?l34 ?c34 ?k34 ?a35 ?l35 ?c35 ?k35 ?a36 ?l36 ?c36 ?k36 ?a37 ?l37 ?c37 ?k37 ?a38 ?l38 ?c38 ?k38 ?a39 ?l39 ?c39 ?k39 ?a40 ?l40 ?c40 ?k40 ?a41 ?l41 ?c41 ?k41 ?a42 ?l42 ?c42 ?k42 ?a43 ?l43 ?c43 ?k43 ?a44 ?l44 ?c44 ?k44 ?a45 ?l45 ?c45 ?k45 ?a46 ?l46 ?c46 ?k46 ?z_abs ?z_enumerate ?z_int ?z_len ?z_list ?z_min ?z_range ?z_tuple ?z_zip ?sp0 ?tk0 ?aC_HostError ?aC_CodeFault ?ex_HostError ?ty_HostError ?hd_HostError ?ex_CodeFault ?ty_CodeFault ?hd_CodeFault ?xl_CodeFault ?sa_CodeFault ?ga_CodeFault ?gg_CodeFault ?ca_CodeFault ?kp_CodeFault ?mr_CodeFault ?aI_CodeFault ?tI_CodeFault ?lI_CodeFault ?cdo_CodeFault ?kI_CodeFault ?no_CodeFault_reason ?sub_CodeFault_HostError ?ne_CodeFault_HostError ?sub_CodeFault_CodeFault ?sub_CodeFault_VE ?aC_Module ?aC_Scope ?aC_Level ?aC_KindStack ?aC_Walker ?at_LISTS ?lt_LISTS ?st_LISTS ?at_BLOCKS ?lt_BLOCKS ?zt_BLOCKS ?vt_BLOCKS ?at_ACCESS_BITS ?lt_ACCESS_BITS ?st_ACCESS_BITS ?at_MOST_EXPONENTS ?lt_MOST_EXPONENTS ?st_MOST_EXPONENTS ?at_RULES ?lt_RULES ?st_RULES ?at_MEMORY_EFFECTS ?lt_MEMORY_EFFECTS ?st_MEMORY_EFFECTS ?at_PLAIN_EFFECTS ?lt_PLAIN_EFFECTS ?st_PLAIN_EFFECTS ?at_LOOSENING ?lt_LOOSENING ?zt_LOOSENING ?vt_LOOSENING ?at_UNKNOWN ?lt_UNKNOWN ?st_UNKNOWN ?vt_LISTS ?vt_ACCESS_BITS ?vt_MOST_EXPONENTS ?vt_RULES ?vt_MEMORY_EFFECTS ?vt_PLAIN_EFFECTS ?vt_UNKNOWN ?lq_MEMORY_EFFECTS_0 ?ze_q_MEMORY_EFFECTS_0 ?vw_q_MEMORY_EFFECTS_0 ?lq_MEMORY_EFFECTS_0_0 ?ze_q_MEMORY_EFFECTS_0_0 ?vw_q_MEMORY_EFFECTS_0_0 ?lq_MEMORY_EFFECTS_0_1 ?ze_q_MEMORY_EFFECTS_0_1 ?vw_q_MEMORY_EFFECTS_0_1 ?lq_MEMORY_EFFECTS_1 ?ze_q_MEMORY_EFFECTS_1 ?vw_q_MEMORY_EFFECTS_1 ?lq_MEMORY_EFFECTS_1_0 ?ze_q_MEMORY_EFFECTS_1_0 ?vw_q_MEMORY_EFFECTS_1_0 ?lq_MEMORY_EFFECTS_1_1 ?ze_q_MEMORY_EFFECTS_1_1 ?vw_q_MEMORY_EFFECTS_1_1 ?lq_MEMORY_EFFECTS_2 ?ze_q_MEMORY_EFFECTS_2 ?vw_q_MEMORY_EFFECTS_2 ?lq_MEMORY_EFFECTS_2_0 ?ze_q_MEMORY_EFFECTS_2_0 ?vw_q_MEMORY_EFFECTS_2_0 ?lq_MEMORY_EFFECTS_2_1 ?ze_q_MEMORY_EFFECTS_2_1 ?vw_q_MEMORY_EFFECTS_2_1 ?lq_MEMORY_EFFECTS_3 ?ze_q_MEMORY_EFFECTS_3 ?vw_q_MEMORY_EFFECTS_3 ?lq_MEMORY_EFFECTS_3_0 ?ze_q_MEMORY_EFFECTS_3_0 ?vw_q_MEMORY_EFFECTS_3_0 ?lq_MEMORY_EFFECTS_3_1 ?ze_q_MEMORY_EFFECTS_3_1 ?vw_q_MEMORY_EFFECTS_3_1 ?lq_PLAIN_EFFECTS_0 ?ze_q_PLAIN_EFFECTS_0 ?vw_q_PLAIN_EFFECTS_0 ?lq_PLAIN_EFFECTS_0_0 ?ze_q_PLAIN_EFFECTS_0_0 ?vw_q_PLAIN_EFFECTS_0_0 ?lq_PLAIN_EFFECTS_0_1 ?ze_q_PLAIN_EFFECTS_0_1 ?vw_q_PLAIN_EFFECTS_0_1 ?lq_PLAIN_EFFECTS_1 ?ze_q_PLAIN_EFFECTS_1 ?vw_q_PLAIN_EFFECTS_1 ?lq_PLAIN_EFFECTS_1_0 ?ze_q_PLAIN_EFFECTS_1_0 ?vw_q_PLAIN_EFFECTS_1_0 ?lq_PLAIN_EFFECTS_1_1 ?ze_q_PLAIN_EFFECTS_1_1 ?vw_q_PLAIN_EFFECTS_1_1 ?lq_PLAIN_EFFECTS_2 ?ze_q_PLAIN_EFFECTS_2 ?vw_q_PLAIN_EFFECTS_2 ?lq_PLAIN_EFFECTS_2_0 ?ze_q_PLAIN_EFFECTS_2_0 ?vw_q_PLAIN_EFFECTS_2_0 ?lq_PLAIN_EFFECTS_2_1 ?ze_q_PLAIN_EFFECTS_2_1 ?vw_q_PLAIN_EFFECTS_2_1 ?lq_PLAIN_EFFECTS_3 ?ze_q_PLAIN_EFFECTS_3 ?vw_q_PLAIN_EFFECTS_3 ?lq_PLAIN_EFFECTS_3_0 ?ze_q_PLAIN_EFFECTS_3_0 ?vw_q_PLAIN_EFFECTS_3_0 ?lq_PLAIN_EFFECTS_3_1 ?ze_q_PLAIN_EFFECTS_3_1 ?vw_q_PLAIN_EFFECTS_3_1 ?lq_PLAIN_EFFECTS_4 ?ze_q_PLAIN_EFFECTS_4 ?vw_q_PLAIN_EFFECTS_4 ?lq_PLAIN_EFFECTS_4_0 ?ze_q_PLAIN_EFFECTS_4_0 ?vw_q_PLAIN_EFFECTS_4_0 ?lq_PLAIN_EFFECTS_4_1 ?ze_q_PLAIN_EFFECTS_4_1 ?vw_q_PLAIN_EFFECTS_4_1 ?ai_MOST_PAGES ?pg_Module ?hd_Module ?po_Module ?sa_Module ?mk_Module ?kc_Module ?na_Module_signatures ?na_Module_imports ?na_Module_functions ?na_Module_tables ?na_Module_memories ?na_Module_tags ?na_Module_variables ?na_Module_exports ?na_Module_start ?na_Module_table_segments ?na_Module_memory_segments ?am47 ?im47 ?l47 ?c47 ?k47 ?kq_Module_signatures ?le_Module_signatures ?ze_Module_signatures ?ve_Module_signatures ?kq_Module_imports ?le_Module_imports ?ze_Module_imports ?ve_Module_imports ?kq_Module_functions ?le_Module_functions ?ze_Module_functions ?ve_Module_functions ?kq_Module_tables ?le_Module_tables ?ze_Module_tables ?ve_Module_tables ?kq_Module_memories ?le_Module_memories ?ze_Module_memories ?ve_Module_memories ?kq_Module_tags ?le_Module_tags ?ze_Module_tags ?ve_Module_tags ?kq_Module_variables ?le_Module_variables ?ze_Module_variables ?ve_Module_variables ?kq_Module_exports ?le_Module_exports ?ze_Module_exports ?ve_Module_exports ?kq_Module_start ?kq_Module_table_segments ?le_Module_table_segments ?ze_Module_table_segments ?ve_Module_table_segments ?kq_Module_memory_segments ?le_Module_memory_segments ?ze_Module_memory_segments ?ve_Module_memory_segments ?pg_Scope ?hd_Scope ?po_Scope ?sa_Scope ?mk_Scope ?kc_Scope ?na_Scope_slots ?na_Scope_results ?na_Scope_labels ?na_Scope_signatures ?na_Scope_function_indexes ?na_Scope_tag_indexes ?na_Scope_heads ?na_Scope_table_count ?na_Scope_memory_count ?am48 ?im48 ?l48 ?c48 ?k48 ?am49 ?im49 ?l49 ?c49 ?k49 ?am50 ?im50 ?l50 ?c50 ?k50 ?am51 ?im51 ?l51 ?c51 ?k51 ?am52 ?im52 ?l52 ?c52 ?k52 ?am53 ?im53 ?l53 ?c53 ?k53 ?am54 ?im54 ?l54 ?c54 ?k54 ?am55 ?im55 ?l55 ?c55 ?k55 ?am56 ?im56 ?l56 ?c56 ?k56 ?am57 ?im57 ?l57 ?c57 ?k57 ?pg_Level ?hd_Level ?po_Level ?sa_Level ?mk_Level ?kc_Level ?na_Level_floor ?na_Level_buried ?na_Level_loose ?am58 ?im58 ?l58 ?c58 ?k58 ?pg_KindStack ?hd_KindStack ?po_KindStack ?sa_KindStack ?mk_KindStack ?kc_KindStack ?na_KindStack_held ?na_KindStack_levels ?am59 ?im59 ?l59 ?c59 ?k59 ?am60 ?im60 ?l60 ?c60 ?k60 ?am61 ?im61 ?l61 ?c61 ?k61 ?am62 ?im62 ?l62 ?c62 ?k62 ?am63 ?im63 ?l63 ?c63 ?k63 ?am64 ?im64 ?l64 ?c64 ?k64 ?am65 ?im65 ?l65 ?c65 ?k65 ?am66 ?im66 ?l66 ?c66 ?k66 ?am67 ?im67 ?l67 ?c67 ?k67 ?am68 ?im68 ?l68 ?c68 ?k68 ?pg_Walker ?hd_Walker ?po_Walker ?sa_Walker ?mk_Walker ?kc_Walker ?na_Walker_scope ?na_Walker_stack ?na_Walker_seen ?na_Walker_reason ?am69 ?im69 ?l69 ?c69 ?k69 ?am70 ?im70 ?l70 ?c70 ?k70 ?am71 ?im71 ?l71 ?c71 ?k71 ?am72 ?im72 ?l72 ?c72 ?k72 ?am73 ?im73 ?l73 ?c73 ?k73 ?am74 ?im74 ?l74 ?c74 ?k74 ?am75 ?im75 ?l75 ?c75 ?k75 ?am76 ?im76 ?l76 ?c76 ?k76 ?am77 ?im77 ?l77 ?c77 ?k77
    (case a0 => k_is)
    (case l0 => k_is)
    (case c0 => k_is)
    (case k0 => k_is)
    (case a1 => k_is)
    (case l1 => k_is)
    (case c1 => k_is)
    (case k1 => k_is)
    (case a2 => k_is)
    (case l2 => k_is)
    (case c2 => k_is)
    (case k2 => k_is)
    (case a3 => k_is)
    (case l3 => k_is)
    (case c3 => k_is)
    (case k3 => k_is)
    (case a4 => k_is)
    (case l4 => k_is)
    (case c4 => k_is)
    (case k4 => k_is)
    (case a5 => k_is)
    (case l5 => k_is)
    (case c5 => k_is)
    (case k5 => k_is)
    (case a6 => k_is)
    (case l6 => k_is)
    (case c6 => k_is)
    (case k6 => k_is)
    (case a7 => k_is)
    (case l7 => k_is)
    (case c7 => k_is)
    (case k7 => k_is)
    (case a8 => k_is)
    (case l8 => k_is)
    (case c8 => k_is)
    (case k8 => k_is)
    (case a9 => k_is)
    (case l9 => k_is)
    (case c9 => k_is)
    (case k9 => k_is)
    (case a10 => k_is)
    (case l10 => k_is)
    (case c10 => k_is)
    (case k10 => k_is)
    (case a11 => k_is)
    (case l11 => k_is)
    (case c11 => k_is)
    (case k11 => k_is)
    (case a12 => k_is)
    (case l12 => k_is)
    (case c12 => k_is)
    (case k12 => k_is)
    (case a13 => k_is)
    (case l13 => k_is)
    (case c13 => k_is)
    (case k13 => k_is)
    (case a14 => k_is)
    (case l14 => k_is)
    (case c14 => k_is)
    (case k14 => k_is)
    (case a15 => k_is)
    (case l15 => k_is)
    (case c15 => k_is)
    (case k15 => k_is)
    (case a16 => k_is)
    (case l16 => k_is)
    (case c16 => k_is)
    (case k16 => k_is)
    (case a17 => k_is)
    (case l17 => k_is)
    (case c17 => k_is)
    (case k17 => k_is)
    (case a18 => k_is)
    (case l18 => k_is)
    (case c18 => k_is)
    (case k18 => k_is)
    (case a19 => k_is)
    (case l19 => k_is)
    (case c19 => k_is)
    (case k19 => k_is)
    (case a20 => k_is)
    (case l20 => k_is)
    (case c20 => k_is)
    (case k20 => k_is)
    (case a21 => k_is)
    (case l21 => k_is)
    (case c21 => k_is)
    (case k21 => k_is)
    (case a22 => k_is)
    (case l22 => k_is)
    (case c22 => k_is)
    (case k22 => k_is)
    (case a23 => k_is)
    (case l23 => k_is)
    (case c23 => k_is)
    (case k23 => k_is)
    (case a24 => k_is)
    (case l24 => k_is)
    (case c24 => k_is)
    (case k24 => k_is)
    (case a25 => k_is)
    (case l25 => k_is)
    (case c25 => k_is)
    (case k25 => k_is)
    (case a26 => k_is)
    (case l26 => k_is)
    (case c26 => k_is)
    (case k26 => k_is)
    (case a27 => k_is)
    (case l27 => k_is)
    (case c27 => k_is)
    (case k27 => k_is)
    (case a28 => k_is)
    (case l28 => k_is)
    (case c28 => k_is)
    (case k28 => k_is)
    (case a29 => k_is)
    (case l29 => k_is)
    (case c29 => k_is)
    (case k29 => k_is)
    (case a30 => k_is)
    (case l30 => k_is)
    (case c30 => k_is)
    (case k30 => k_is)
    (case a31 => k_is)
    (case l31 => k_is)
    (case c31 => k_is)
    (case k31 => k_is)
    (case a32 => k_is)
    (case l32 => k_is)
    (case c32 => k_is)
    (case k32 => k_is)
    (case a33 => k_is)
    (case l33 => k_is)
    (case c33 => k_is)
    (case k33 => k_is)
    (case a34 => k_is)
    (case l34 => k_is)
    (case c34 => k_is)
    (case k34 => k_is)
    (case a35 => k_is)
    (case l35 => k_is)
    (case c35 => k_is)
    (case k35 => k_is)
    (case a36 => k_is)
    (case l36 => k_is)
    (case c36 => k_is)
    (case k36 => k_is)
    (case a37 => k_is)
    (case l37 => k_is)
    (case c37 => k_is)
    (case k37 => k_is)
    (case a38 => k_is)
    (case l38 => k_is)
    (case c38 => k_is)
    (case k38 => k_is)
    (case a39 => k_is)
    (case l39 => k_is)
    (case c39 => k_is)
    (case k39 => k_is)
    (case a40 => k_is)
    (case l40 => k_is)
    (case c40 => k_is)
    (case k40 => k_is)
    (case a41 => k_is)
    (case l41 => k_is)
    (case c41 => k_is)
    (case k41 => k_is)
    (case a42 => k_is)
    (case l42 => k_is)
    (case c42 => k_is)
    (case k42 => k_is)
    (case a43 => k_is)
    (case l43 => k_is)
    (case c43 => k_is)
    (case k43 => k_is)
    (case a44 => k_is)
    (case l44 => k_is)
    (case c44 => k_is)
    (case k44 => k_is)
    (case a45 => k_is)
    (case l45 => k_is)
    (case c45 => k_is)
    (case k45 => k_is)
    (case a46 => k_is)
    (case l46 => k_is)
    (case c46 => k_is)
    (case k46 => k_is)
    (case z_abs => k_is)
    (case z_enumerate => k_is)
    (case z_int => k_is)
    (case z_len => k_is)
    (case z_list => k_is)
    (case z_min => k_is)
    (case z_range => k_is)
    (case z_tuple => k_is)
    (case z_zip => k_is)
    (case sp0 => k_is)
    (case tk0 => k_is)
    (case aC_HostError => k_is)
    (case aC_CodeFault => k_is)
    (case ex_HostError => k_is)
    (case ty_HostError => k_is)
    (case hd_HostError => k_is)
    (case ex_CodeFault => k_is)
    (case ty_CodeFault => k_is)
    (case hd_CodeFault => k_is)
    (case xl_CodeFault => k_is)
    (case sa_CodeFault => k_is)
    (case ga_CodeFault => k_is)
    (case gg_CodeFault => k_is)
    (case ca_CodeFault => k_is)
    (case kp_CodeFault => k_is)
    (case mr_CodeFault => k_is)
    (case aI_CodeFault => k_is)
    (case tI_CodeFault => k_is)
    (case lI_CodeFault => k_is)
    (case cdo_CodeFault => k_is)
    (case kI_CodeFault => k_is)
    (case no_CodeFault_reason => k_is)
    (case sub_CodeFault_HostError => first | rfl | k_is)
    (case ne_CodeFault_HostError => decide)
    (case sub_CodeFault_CodeFault => first | rfl | k_is)
    (case sub_CodeFault_VE => first | rfl | k_is)
    (case aC_Module => k_is)
    (case aC_Scope => k_is)
    (case aC_Level => k_is)
    (case aC_KindStack => k_is)
    (case aC_Walker => k_is)
    (case at_LISTS => k_is)
    (case lt_LISTS => k_is)
    (case st_LISTS => first | rfl | decide)
    (case at_BLOCKS => k_is)
    (case lt_BLOCKS => k_is)
    (case zt_BLOCKS => exact V.small64 (by decide))
    (case vt_BLOCKS => exact V.vals_strs _ _ (by decide +kernel))
    (case at_ACCESS_BITS => k_is)
    (case lt_ACCESS_BITS => k_is)
    (case st_ACCESS_BITS => first | rfl | decide)
    (case at_MOST_EXPONENTS => k_is)
    (case lt_MOST_EXPONENTS => k_is)
    (case st_MOST_EXPONENTS => first | rfl | decide)
    (case at_RULES => k_is)
    (case lt_RULES => k_is)
    (case st_RULES => first | rfl | decide)
    (case at_MEMORY_EFFECTS => k_is)
    (case lt_MEMORY_EFFECTS => k_is)
    (case st_MEMORY_EFFECTS => first | rfl | decide)
    (case at_PLAIN_EFFECTS => k_is)
    (case lt_PLAIN_EFFECTS => k_is)
    (case st_PLAIN_EFFECTS => first | rfl | decide)
    (case at_LOOSENING => k_is)
    (case lt_LOOSENING => k_is)
    (case zt_LOOSENING => exact V.small64 (by decide))
    (case vt_LOOSENING => exact V.vals_strs _ _ (by decide +kernel))
    (case at_UNKNOWN => k_is)
    (case lt_UNKNOWN => k_is)
    (case st_UNKNOWN => first | rfl | decide)
    (case vt_LISTS => repeat (first | exact True.intro | refine And.intro ⟨_, rfl⟩ (And.intro rfl (And.intro (by first | exact rfl | exact ⟨_, rfl⟩) ?_))))
    (case vt_ACCESS_BITS => repeat (first | exact True.intro | refine And.intro ⟨_, rfl⟩ (And.intro rfl (And.intro (by first | exact rfl | exact ⟨_, rfl⟩) ?_))))
    (case vt_MOST_EXPONENTS => repeat (first | exact True.intro | refine And.intro ⟨_, rfl⟩ (And.intro rfl (And.intro (by first | exact rfl | exact ⟨_, rfl⟩) ?_))))
    (case vt_RULES => repeat (first | exact True.intro | refine And.intro ⟨_, rfl⟩ (And.intro rfl (And.intro (by first | exact rfl | exact ⟨_, rfl⟩) ?_))))
    (case vt_MEMORY_EFFECTS => repeat (first | exact True.intro | refine And.intro ⟨_, rfl⟩ (And.intro rfl (And.intro (by first | exact rfl | exact ⟨_, rfl⟩) ?_))))
    (case vt_PLAIN_EFFECTS => repeat (first | exact True.intro | refine And.intro ⟨_, rfl⟩ (And.intro rfl (And.intro (by first | exact rfl | exact ⟨_, rfl⟩) ?_))))
    (case vt_UNKNOWN => repeat (first | exact True.intro | refine And.intro ⟨_, rfl⟩ (And.intro rfl (And.intro (by first | exact rfl | exact ⟨_, rfl⟩) ?_))))
    (case lq_MEMORY_EFFECTS_0 => k_is)
    (case ze_q_MEMORY_EFFECTS_0 => decide)
    (case vw_q_MEMORY_EFFECTS_0 => repeat (first | exact .nil | refine .cons (by first | exact rfl | exact ⟨_, rfl⟩) ?_))
    (case lq_MEMORY_EFFECTS_0_0 => k_is)
    (case ze_q_MEMORY_EFFECTS_0_0 => decide)
    (case vw_q_MEMORY_EFFECTS_0_0 => repeat (first | exact .nil | refine .cons (by first | exact rfl | exact ⟨_, rfl⟩) ?_))
    (case lq_MEMORY_EFFECTS_0_1 => k_is)
    (case ze_q_MEMORY_EFFECTS_0_1 => decide)
    (case vw_q_MEMORY_EFFECTS_0_1 => repeat (first | exact .nil | refine .cons (by first | exact rfl | exact ⟨_, rfl⟩) ?_))
    (case lq_MEMORY_EFFECTS_1 => k_is)
    (case ze_q_MEMORY_EFFECTS_1 => decide)
    (case vw_q_MEMORY_EFFECTS_1 => repeat (first | exact .nil | refine .cons (by first | exact rfl | exact ⟨_, rfl⟩) ?_))
    (case lq_MEMORY_EFFECTS_1_0 => k_is)
    (case ze_q_MEMORY_EFFECTS_1_0 => decide)
    (case vw_q_MEMORY_EFFECTS_1_0 => repeat (first | exact .nil | refine .cons (by first | exact rfl | exact ⟨_, rfl⟩) ?_))
    (case lq_MEMORY_EFFECTS_1_1 => k_is)
    (case ze_q_MEMORY_EFFECTS_1_1 => decide)
    (case vw_q_MEMORY_EFFECTS_1_1 => repeat (first | exact .nil | refine .cons (by first | exact rfl | exact ⟨_, rfl⟩) ?_))
    (case lq_MEMORY_EFFECTS_2 => k_is)
    (case ze_q_MEMORY_EFFECTS_2 => decide)
    (case vw_q_MEMORY_EFFECTS_2 => repeat (first | exact .nil | refine .cons (by first | exact rfl | exact ⟨_, rfl⟩) ?_))
    (case lq_MEMORY_EFFECTS_2_0 => k_is)
    (case ze_q_MEMORY_EFFECTS_2_0 => decide)
    (case vw_q_MEMORY_EFFECTS_2_0 => repeat (first | exact .nil | refine .cons (by first | exact rfl | exact ⟨_, rfl⟩) ?_))
    (case lq_MEMORY_EFFECTS_2_1 => k_is)
    (case ze_q_MEMORY_EFFECTS_2_1 => decide)
    (case vw_q_MEMORY_EFFECTS_2_1 => repeat (first | exact .nil | refine .cons (by first | exact rfl | exact ⟨_, rfl⟩) ?_))
    (case lq_MEMORY_EFFECTS_3 => k_is)
    (case ze_q_MEMORY_EFFECTS_3 => decide)
    (case vw_q_MEMORY_EFFECTS_3 => repeat (first | exact .nil | refine .cons (by first | exact rfl | exact ⟨_, rfl⟩) ?_))
    (case lq_MEMORY_EFFECTS_3_0 => k_is)
    (case ze_q_MEMORY_EFFECTS_3_0 => decide)
    (case vw_q_MEMORY_EFFECTS_3_0 => repeat (first | exact .nil | refine .cons (by first | exact rfl | exact ⟨_, rfl⟩) ?_))
    (case lq_MEMORY_EFFECTS_3_1 => k_is)
    (case ze_q_MEMORY_EFFECTS_3_1 => decide)
    (case vw_q_MEMORY_EFFECTS_3_1 => repeat (first | exact .nil | refine .cons (by first | exact rfl | exact ⟨_, rfl⟩) ?_))
    (case lq_PLAIN_EFFECTS_0 => k_is)
    (case ze_q_PLAIN_EFFECTS_0 => decide)
    (case vw_q_PLAIN_EFFECTS_0 => repeat (first | exact .nil | refine .cons (by first | exact rfl | exact ⟨_, rfl⟩) ?_))
    (case lq_PLAIN_EFFECTS_0_0 => k_is)
    (case ze_q_PLAIN_EFFECTS_0_0 => decide)
    (case vw_q_PLAIN_EFFECTS_0_0 => repeat (first | exact .nil | refine .cons (by first | exact rfl | exact ⟨_, rfl⟩) ?_))
    (case lq_PLAIN_EFFECTS_0_1 => k_is)
    (case ze_q_PLAIN_EFFECTS_0_1 => decide)
    (case vw_q_PLAIN_EFFECTS_0_1 => repeat (first | exact .nil | refine .cons (by first | exact rfl | exact ⟨_, rfl⟩) ?_))
    (case lq_PLAIN_EFFECTS_1 => k_is)
    (case ze_q_PLAIN_EFFECTS_1 => decide)
    (case vw_q_PLAIN_EFFECTS_1 => repeat (first | exact .nil | refine .cons (by first | exact rfl | exact ⟨_, rfl⟩) ?_))
    (case lq_PLAIN_EFFECTS_1_0 => k_is)
    (case ze_q_PLAIN_EFFECTS_1_0 => decide)
    (case vw_q_PLAIN_EFFECTS_1_0 => repeat (first | exact .nil | refine .cons (by first | exact rfl | exact ⟨_, rfl⟩) ?_))
    (case lq_PLAIN_EFFECTS_1_1 => k_is)
    (case ze_q_PLAIN_EFFECTS_1_1 => decide)
    (case vw_q_PLAIN_EFFECTS_1_1 => repeat (first | exact .nil | refine .cons (by first | exact rfl | exact ⟨_, rfl⟩) ?_))
    (case lq_PLAIN_EFFECTS_2 => k_is)
    (case ze_q_PLAIN_EFFECTS_2 => decide)
    (case vw_q_PLAIN_EFFECTS_2 => repeat (first | exact .nil | refine .cons (by first | exact rfl | exact ⟨_, rfl⟩) ?_))
    (case lq_PLAIN_EFFECTS_2_0 => k_is)
    (case ze_q_PLAIN_EFFECTS_2_0 => decide)
    (case vw_q_PLAIN_EFFECTS_2_0 => repeat (first | exact .nil | refine .cons (by first | exact rfl | exact ⟨_, rfl⟩) ?_))
    (case lq_PLAIN_EFFECTS_2_1 => k_is)
    (case ze_q_PLAIN_EFFECTS_2_1 => decide)
    (case vw_q_PLAIN_EFFECTS_2_1 => repeat (first | exact .nil | refine .cons (by first | exact rfl | exact ⟨_, rfl⟩) ?_))
    (case lq_PLAIN_EFFECTS_3 => k_is)
    (case ze_q_PLAIN_EFFECTS_3 => decide)
    (case vw_q_PLAIN_EFFECTS_3 => repeat (first | exact .nil | refine .cons (by first | exact rfl | exact ⟨_, rfl⟩) ?_))
    (case lq_PLAIN_EFFECTS_3_0 => k_is)
    (case ze_q_PLAIN_EFFECTS_3_0 => decide)
    (case vw_q_PLAIN_EFFECTS_3_0 => repeat (first | exact .nil | refine .cons (by first | exact rfl | exact ⟨_, rfl⟩) ?_))
    (case lq_PLAIN_EFFECTS_3_1 => k_is)
    (case ze_q_PLAIN_EFFECTS_3_1 => decide)
    (case vw_q_PLAIN_EFFECTS_3_1 => repeat (first | exact .nil | refine .cons (by first | exact rfl | exact ⟨_, rfl⟩) ?_))
    (case lq_PLAIN_EFFECTS_4 => k_is)
    (case ze_q_PLAIN_EFFECTS_4 => decide)
    (case vw_q_PLAIN_EFFECTS_4 => repeat (first | exact .nil | refine .cons (by first | exact rfl | exact ⟨_, rfl⟩) ?_))
    (case lq_PLAIN_EFFECTS_4_0 => k_is)
    (case ze_q_PLAIN_EFFECTS_4_0 => decide)
    (case vw_q_PLAIN_EFFECTS_4_0 => repeat (first | exact .nil | refine .cons (by first | exact rfl | exact ⟨_, rfl⟩) ?_))
    (case lq_PLAIN_EFFECTS_4_1 => k_is)
    (case ze_q_PLAIN_EFFECTS_4_1 => decide)
    (case vw_q_PLAIN_EFFECTS_4_1 => repeat (first | exact .nil | refine .cons (by first | exact rfl | exact ⟨_, rfl⟩) ?_))
    (case ai_MOST_PAGES => k_is)
    (case pg_Module => k_is)
    (case hd_Module => k_is)
    (case po_Module => k_is)
    (case sa_Module => k_is)
    (case mk_Module => k_is)
    (case kc_Module => k_is)
    (case na_Module_signatures => k_is)
    (case na_Module_imports => k_is)
    (case na_Module_functions => k_is)
    (case na_Module_tables => k_is)
    (case na_Module_memories => k_is)
    (case na_Module_tags => k_is)
    (case na_Module_variables => k_is)
    (case na_Module_exports => k_is)
    (case na_Module_start => k_is)
    (case na_Module_table_segments => k_is)
    (case na_Module_memory_segments => k_is)
    (case am47 => k_is)
    (case im47 => k_is)
    (case l47 => k_is)
    (case c47 => k_is)
    (case k47 => k_is)
    (case kq_Module_signatures => k_is)
    (case le_Module_signatures => k_is)
    (case ze_Module_signatures => decide)
    (case ve_Module_signatures => exact .nil)
    (case kq_Module_imports => k_is)
    (case le_Module_imports => k_is)
    (case ze_Module_imports => decide)
    (case ve_Module_imports => exact .nil)
    (case kq_Module_functions => k_is)
    (case le_Module_functions => k_is)
    (case ze_Module_functions => decide)
    (case ve_Module_functions => exact .nil)
    (case kq_Module_tables => k_is)
    (case le_Module_tables => k_is)
    (case ze_Module_tables => decide)
    (case ve_Module_tables => exact .nil)
    (case kq_Module_memories => k_is)
    (case le_Module_memories => k_is)
    (case ze_Module_memories => decide)
    (case ve_Module_memories => exact .nil)
    (case kq_Module_tags => k_is)
    (case le_Module_tags => k_is)
    (case ze_Module_tags => decide)
    (case ve_Module_tags => exact .nil)
    (case kq_Module_variables => k_is)
    (case le_Module_variables => k_is)
    (case ze_Module_variables => decide)
    (case ve_Module_variables => exact .nil)
    (case kq_Module_exports => k_is)
    (case le_Module_exports => k_is)
    (case ze_Module_exports => decide)
    (case ve_Module_exports => exact .nil)
    (case kq_Module_start => k_is)
    (case kq_Module_table_segments => k_is)
    (case le_Module_table_segments => k_is)
    (case ze_Module_table_segments => decide)
    (case ve_Module_table_segments => exact .nil)
    (case kq_Module_memory_segments => k_is)
    (case le_Module_memory_segments => k_is)
    (case ze_Module_memory_segments => decide)
    (case ve_Module_memory_segments => exact .nil)
    (case pg_Scope => k_is)
    (case hd_Scope => k_is)
    (case po_Scope => k_is)
    (case sa_Scope => k_is)
    (case mk_Scope => k_is)
    (case kc_Scope => k_is)
    (case na_Scope_slots => k_is)
    (case na_Scope_results => k_is)
    (case na_Scope_labels => k_is)
    (case na_Scope_signatures => k_is)
    (case na_Scope_function_indexes => k_is)
    (case na_Scope_tag_indexes => k_is)
    (case na_Scope_heads => k_is)
    (case na_Scope_table_count => k_is)
    (case na_Scope_memory_count => k_is)
    (case am48 => k_is)
    (case im48 => k_is)
    (case l48 => k_is)
    (case c48 => k_is)
    (case k48 => k_is)
    (case am49 => k_is)
    (case im49 => k_is)
    (case l49 => k_is)
    (case c49 => k_is)
    (case k49 => k_is)
    (case am50 => k_is)
    (case im50 => k_is)
    (case l50 => k_is)
    (case c50 => k_is)
    (case k50 => k_is)
    (case am51 => k_is)
    (case im51 => k_is)
    (case l51 => k_is)
    (case c51 => k_is)
    (case k51 => k_is)
    (case am52 => k_is)
    (case im52 => k_is)
    (case l52 => k_is)
    (case c52 => k_is)
    (case k52 => k_is)
    (case am53 => k_is)
    (case im53 => k_is)
    (case l53 => k_is)
    (case c53 => k_is)
    (case k53 => k_is)
    (case am54 => k_is)
    (case im54 => k_is)
    (case l54 => k_is)
    (case c54 => k_is)
    (case k54 => k_is)
    (case am55 => k_is)
    (case im55 => k_is)
    (case l55 => k_is)
    (case c55 => k_is)
    (case k55 => k_is)
    (case am56 => k_is)
    (case im56 => k_is)
    (case l56 => k_is)
    (case c56 => k_is)
    (case k56 => k_is)
    (case am57 => k_is)
    (case im57 => k_is)
    (case l57 => k_is)
    (case c57 => k_is)
    (case k57 => k_is)
    (case pg_Level => k_is)
    (case hd_Level => k_is)
    (case po_Level => k_is)
    (case sa_Level => k_is)
    (case mk_Level => k_is)
    (case kc_Level => k_is)
    (case na_Level_floor => k_is)
    (case na_Level_buried => k_is)
    (case na_Level_loose => k_is)
    (case am58 => k_is)
    (case im58 => k_is)
    (case l58 => k_is)
    (case c58 => k_is)
    (case k58 => k_is)
    (case pg_KindStack => k_is)
    (case hd_KindStack => k_is)
    (case po_KindStack => k_is)
    (case sa_KindStack => k_is)
    (case mk_KindStack => k_is)
    (case kc_KindStack => k_is)
    (case na_KindStack_held => k_is)
    (case na_KindStack_levels => k_is)
    (case am59 => k_is)
    (case im59 => k_is)
    (case l59 => k_is)
    (case c59 => k_is)
    (case k59 => k_is)
    (case am60 => k_is)
    (case im60 => k_is)
    (case l60 => k_is)
    (case c60 => k_is)
    (case k60 => k_is)
    (case am61 => k_is)
    (case im61 => k_is)
    (case l61 => k_is)
    (case c61 => k_is)
    (case k61 => k_is)
    (case am62 => k_is)
    (case im62 => k_is)
    (case l62 => k_is)
    (case c62 => k_is)
    (case k62 => k_is)
    (case am63 => k_is)
    (case im63 => k_is)
    (case l63 => k_is)
    (case c63 => k_is)
    (case k63 => k_is)
    (case am64 => k_is)
    (case im64 => k_is)
    (case l64 => k_is)
    (case c64 => k_is)
    (case k64 => k_is)
    (case am65 => k_is)
    (case im65 => k_is)
    (case l65 => k_is)
    (case c65 => k_is)
    (case k65 => k_is)
    (case am66 => k_is)
    (case im66 => k_is)
    (case l66 => k_is)
    (case c66 => k_is)
    (case k66 => k_is)
    (case am67 => k_is)
    (case im67 => k_is)
    (case l67 => k_is)
    (case c67 => k_is)
    (case k67 => k_is)
    (case am68 => k_is)
    (case im68 => k_is)
    (case l68 => k_is)
    (case c68 => k_is)
    (case k68 => k_is)
    (case pg_Walker => k_is)
    (case hd_Walker => k_is)
    (case po_Walker => k_is)
    (case sa_Walker => k_is)
    (case mk_Walker => k_is)
    (case kc_Walker => k_is)
    (case na_Walker_scope => k_is)
    (case na_Walker_stack => k_is)
    (case na_Walker_seen => k_is)
    (case na_Walker_reason => k_is)
    (case am69 => k_is)
    (case im69 => k_is)
    (case l69 => k_is)
    (case c69 => k_is)
    (case k69 => k_is)
    (case am70 => k_is)
    (case im70 => k_is)
    (case l70 => k_is)
    (case c70 => k_is)
    (case k70 => k_is)
    (case am71 => k_is)
    (case im71 => k_is)
    (case l71 => k_is)
    (case c71 => k_is)
    (case k71 => k_is)
    (case am72 => k_is)
    (case im72 => k_is)
    (case l72 => k_is)
    (case c72 => k_is)
    (case k72 => k_is)
    (case am73 => k_is)
    (case im73 => k_is)
    (case l73 => k_is)
    (case c73 => k_is)
    (case k73 => k_is)
    (case am74 => k_is)
    (case im74 => k_is)
    (case l74 => k_is)
    (case c74 => k_is)
    (case k74 => k_is)
    (case am75 => k_is)
    (case im75 => k_is)
    (case l75 => k_is)
    (case c75 => k_is)
    (case k75 => k_is)
    (case am76 => k_is)
    (case im76 => k_is)
    (case l76 => k_is)
    (case c76 => k_is)
    (case k76 => k_is)
    (case am77 => k_is)
    (case im77 => k_is)
    (case l77 => k_is)
    (case c77 => k_is)
    (case k77 => k_is)
#print axioms PySem.Challenge.cw_wasmhost_k38_memory_instructions_holds

