import PyProof.Rows.All
import Wide.All
import OpenK.AllK
import Wide.FinOn
import KE.KBits
import KE.BitLaws
import HandS.ForMost
import HandS.ForExc
import HandS.IsInst
import HandS.Wide
import HandS.WideBits
import HandS.WideMore
import HandS.Flow
import HandS.ExcInit
import HandS.Codes
import HandS.ExcField
import HandS.ExcIs
import KE.KExcIs
import KE.KIsAll
import HandS.More
import HandS.Dict
import HandS.CallLocal
import HandS.Zip
import HandS.Text
import HandS.Conv
import HandS.Iter
import HandS.Style
import HandS.MakeKwOnly
import PySem.Challenge.RW_wasmhost_k43_items_fit_imports
import HandS.Head0
import HandS.Head1
import HandS.Head2
set_option Elab.async false
set_option linter.all false
set_option maxRecDepth 100000
set_option maxHeartbeats 0
namespace Hd
open PySem PySem.W PySem.Calls PyProof.Rows
abbrev R : OpenRow := OpenLaw.row PySem.Challenge.rw_wasmhost_k43_items_fit_imports
abbrev qv : Program := view R.prog [29]
def n0 : List PySem.Str := ["__name__", "HostError", "LimitReached", "items_of", "host_functions", "MOST_KINDS", "MOST_HOSTS", "PAGE_BYTES", "Table", "Memory", "Global", "Store", "check_signature", "add_host", "size_fits"]
def n1 : List PySem.Str := ["item_fits", "Module", "_law_tape", "_law_draw", "_law_says", "_law_signature", "_law_near", "_law_limit", "_law_limit_fits"]
def names : List PySem.Str := n0 ++ n1
local macro_rules | `(tactic| o_head $x) => `(tactic| exact False.elim ‹False›)
set_option maxRecDepth 100000 in
set_option maxHeartbeats 0 in
theorem pre (h : False) : PySem.Challenge.rw_wasmhost_k43_items_fit_imports.Holds := by
  w_on; o_law; k_head
  all_goals exact h.elim
abbrev as0 : List Addr := [2, 3, 15, 22, 23, 24, 25, 28, 35, 37, 38, 40, 41, 42, 43, 44, 47, 49, 50, 52, 53, 54, 57, 58, 66, 68, 69, 71, 72, 73, 74, 75, 76, 77, 87, 89, 90, 92, 93, 94, 96, 97, 99, 100, 101, 104, 105, 106, 108, 109, 111, 112, 113, 114, 115, 116, 117, 127, 129, 130, 132, 133, 134, 135, 136, 137, 138, 148, 150, 151, 153, 154, 155, 156, 157, 158, 159, 162, 164, 165, 167, 168, 169, 171, 172, 174, 175, 176, 178, 179, 181, 182, 183, 185, 186, 188, 189, 197, 198, 199, 200, 201, 202, 203, 204, 205, 206, 207, 208, 210, 211, 213, 214, 215, 216, 217, 218, 219, 222, 224, 225, 227, 228, 229, 231, 232, 234, 235, 236, 238, 239, 241, 242, 243, 246, 247, 248, 250, 251, 253, 254, 255, 257, 258, 260, 261, 262, 264, 265, 267, 268, 269, 272, 273]
theorem as_eq : ∀ P, as0 = (pre.heap_39 P).map (·.1) := fun _ => by kernel_rfl
noncomputable abbrev HK : Hook := kHook pre.heap_39 as0 as_eq
noncomputable def ob (s : SharedT) : HK.α := List.map (HandSHeadRun.getT s) as0
theorem ob_eq (s : SharedT) : ob s = HK.obs s.abs := by
  show as0.map (HandSHeadRun.getT s) = as0.map s.abs.heap.get?
  rw [show HandSHeadRun.getT s = s.abs.heap.get? from funext fun a => HandSHeadRun.getT_eq s a]
set_option maxRecDepth 100000 in
set_option maxHeartbeats 0 in
theorem run0 : ∀ w : World, (fun w => HandSHeadRun.RunEq R qv HK ob 9000 names w) (w.withFollow "special-get-raises" false) := fun w os => by kernel_rfl
set_option maxRecDepth 100000 in
set_option maxHeartbeats 0 in
theorem run1 : ∀ w : World, (fun w => HandSHeadRun.RunEq R qv HK ob 9000 names w) (w.withFollow "special-get-raises" true) := fun w os => by kernel_rfl
theorem run (w : World) : HandSHeadRun.RunEq R qv HK ob 9000 names w := byRow2 "special-get-raises" (P := fun w => HandSHeadRun.RunEq R qv HK ob 9000 names w) run0 run1 w
set_option maxRecDepth 100000 in
set_option maxHeartbeats 0 in
theorem opn : opening R.prog = plainProg R.prog.main.scope.names := by kernel_rfl
set_option maxRecDepth 100000 in
set_option maxHeartbeats 0 in
theorem fen (s : Shared) : fenceModules? R.prog s = some s := by kernel_rfl
end Hd
namespace V
open PySem PySem.Spec PyProof.Rows L2
/-! ### a def that may be called by its name -/
structure Cal (P : Program) (w : World) (K : PySem.W.Frag) (mg : Str → Option Value) (base : Heap) (C : CXT) (k : Nat) (x : Str) (sp : Sp) : Prop where
  ex : ∃ (f : Addr) (fd : FuncData) (ps : List Str), FnOk P w K mg base C k f fd ps sp ∧ mg x = some (.ref f) ∧ PySem.W.keepIn K (.ref f) = true ∧ Binds K fd ps []
section
variable {P : Program} {w : World} {K : PySem.W.Frag} {mg : Str → Option Value} {base : Heap} {k : Nat} {x : Str} {sp sp' : Sp} {C : CXT}
theorem Cal.mono (c : Cal P w K mg base C k x sp) {j : Nat} (h : k ≤ j) : Cal P w K mg base C j x sp := by
  obtain ⟨f, fd, ps, F, m, kp, b⟩ := c.ex
  exact ⟨f, fd, ps, F.mono h, m, kp, b⟩
theorem Cal.imp (c : Cal P w K mg base C k x sp) (h : ∀ vs H Q E, sp' vs H Q E → sp vs H Q E) : Cal P w K mg base C k x sp' := by
  obtain ⟨f, fd, ps, F, m, kp, b⟩ := c.ex
  exact ⟨f, fd, ps, F.imp h, m, kp, b⟩
/-- a def as the top leaves it -/
structure Def (K : PySem.W.Frag) (mg : Str → Option Value) (x : Str) (st : Stmt) (ps : List Str) : Prop where
  ex : ∃ (f : Addr) (fd : FuncData), L2.Fun K x x st f fd ∧ mg x = some (.ref f) ∧ Binds K fd ps []
theorem Def.ok {st : Stmt} {N ps : List Str} (D : Def K mg x st ps) (S : FnScope N ps (defScope st)) (len : ∀ vs H Q E, sp vs H Q E → vs.length = ps.length)
    (hbody : ∀ (f : Addr) (cdv : Value) (A : Around) (outer : List Env) (s : Shared) (H : Hp) (vs : List V) (Q : VK) (E : XK), Room k (A.deeper (envOfC x (defScope st) s.heap.objs.size f cdv)) → sp vs H Q E →
      ∃ t, PSs (cxOf CX0 P w K mg base N x (defScope st) f cdv A outer s H E).nox (defBody st) t ∧ t { nx := fun _ H' => Q .non H', rt := Q } (start N vs) H) : Cal P w K mg base CX0 (k + 1) x sp := by
  obtain ⟨f, fd, F, m, b⟩ := D.ex
  exact ⟨f, fd, ps, F.ok S len (hbody f), m, F.kp, b⟩
theorem Def.okX {st : Stmt} {N ps : List Str} (D : Def K mg x st ps) (S : FnScope N ps (defScope st)) (len : ∀ vs H Q E, sp vs H Q E → vs.length = ps.length)
    (hbody : ∀ (f : Addr) (cdv : Value) (A : Around) (outer : List Env) (s : Shared) (H : Hp) (vs : List V) (Q : VK) (E : XK), Room k (A.deeper (envOfC x (defScope st) s.heap.objs.size f cdv)) → sp vs H Q E →
      ∃ t, PSs (cxOf (L2.CX P w) P w K mg base N x (defScope st) f cdv A outer s H E) (defBody st) t ∧ t { nx := fun _ H' => Q .non H', rt := Q } (start N vs) H) : Cal P w K mg base (L2.CX P w) (k + 1) x sp := by
  obtain ⟨f, fd, F, m, b⟩ := D.ex
  exact ⟨f, fd, ps, F.okX S len (hbody f), m, F.kp, b⟩
end
section
variable {X : Cx} {k j : Nat} {x : Str} {sp : Sp} {p pos : Pos} {e : Expr} {es : List Expr} {t : TA} {C : CXT} {E : XK}
theorem pe_cE (c : Cal X.prog X.w X.K X.mg X.base C k x sp) (hr : Room j X.A) (hk : k ≤ j) (hx : Passes C X E) (hg : Gl X x) (ha : PA X (e :: es) t)
    (hdb : (x == ("__debug__" : Str)) = false := by decide) (he : starEach (e :: es) X.env = (false, eval e X.env) :: starEach es X.env := by rfl) (hpl : (backTo pos (starEach es X.env)).any (·.1) = false := by rfl) :
    PE X (.Call (.Name x p) (e :: es) [] pos) (tCall sp [] E t) := by
  obtain ⟨f, fd, ps, F, hm, kp, b⟩ := c.ex
  exact pe_call F (hr.mono hk) hg hm kp b .nil hx ha hdb he hpl
theorem pe_cE0 (c : Cal X.prog X.w X.K X.mg X.base C k x sp) (hr : Room j X.A) (hk : k ≤ j) (hx : Passes C X E) (hg : Gl X x)
    (hdb : (x == ("__debug__" : Str)) = false := by decide) : PE X (.Call (.Name x p) [] [] pos) (tCall sp [] E tNil) := by
  obtain ⟨f, fd, ps, F, hm, kp, b⟩ := c.ex
  exact pe_call0 F (hr.mono hk) hg hm kp b .nil hx hdb
/-- a def that lets nothing out -/
theorem pe_c (c : Cal X.prog X.w X.K X.mg X.base CX0 k x sp) (hr : Room j X.A) (hk : k ≤ j) (hg : Gl X x) (ha : PA X (e :: es) t)
    (hdb : (x == ("__debug__" : Str)) = false := by decide) (he : starEach (e :: es) X.env = (false, eval e X.env) :: starEach es X.env := by rfl) (hpl : (backTo pos (starEach es X.env)).any (·.1) = false := by rfl) :
    PE X (.Call (.Name x p) (e :: es) [] pos) (tCall sp [] E0 t) := pe_cE c hr hk pass0 hg ha hdb he hpl
theorem pe_c0 (c : Cal X.prog X.w X.K X.mg X.base CX0 k x sp) (hr : Room j X.A) (hk : k ≤ j) (hg : Gl X x)
    (hdb : (x == ("__debug__" : Str)) = false := by decide) : PE X (.Call (.Name x p) [] [] pos) (tCall sp [] E0 tNil) := pe_cE0 c hr hk pass0 hg hdb
end
section
variable {X : Cx} {k j : Nat} {x : Str} {sp : Sp} {p pos : Pos} {e : Expr} {es : List Expr} {t : TA} {C : CXT} {E : L2.St → XK}
/-- a call within a try -/
theorem pe_cS (c : Cal X.prog X.w X.K X.mg X.base C k x sp) (hr : Room j X.A) (hk : k ≤ j) (hg : Gl X x) (hx : ∀ σ, PassesAt C X σ (E σ)) (ha : PA X (e :: es) t)
    (hdb : (x == ("__debug__" : Str)) = false := by decide) (he : starEach (e :: es) X.env = (false, eval e X.env) :: starEach es X.env := by rfl) (hpl : (backTo pos (starEach es X.env)).any (·.1) = false := by rfl) : PE X (.Call (.Name x p) (e :: es) [] pos) (tCallS sp E t) := by
  obtain ⟨f, fd, ps, F, hm, kp, b⟩ := c.ex
  exact pe_callS F (hr.mono hk) hg hm kp b hx ha hdb he hpl
end
theorem hu64 {A : Around} {k : Nat} (hr : Room k A) : A.units + 64 < cLine := by have := hr.un; omega
/-! ### numbers -/
theorem small64 {n : Nat} (h : n ≤ 1000000) : n ≤ sizeLine := Nat.le_trans h (by decide)
theorem small64' {n : Nat} (h : n ≤ 1000000) : n < sizeLine := Nat.lt_of_le_of_lt h (by decide)
theorem shl1 {j : Int} (h : 0 ≤ j) (h2 : j ≤ 100000) : CShl 1 j := by
  obtain ⟨n, rfl⟩ := Int.eq_ofNat_of_zero_le h
  exact shl_ok (n := 1) (by decide) (by omega)
theorem shlN {i j : Int} (hi : i.natAbs < 2 ^ 1000) (h : 0 ≤ j) (h2 : j ≤ 100000) : CShl i j := by
  obtain ⟨n, rfl⟩ := Int.eq_ofNat_of_zero_le h
  exact shl_ok (n := 1000) hi (by omega)
theorem pow_pos2 (k : Nat) : (0 : Int) < 2 ^ k := PySem.W.kbt_pos k
/-! ### heaps -/
theorem Same.new {H : Hp} {p : Addr} {o : HO} (h : H p = none) : Same H (upd H p o) := fun b x e => by
  rw [upd_ne (ne_of_none e h)]; exact e
theorem SqL.new {K : PySem.W.Frag} {H : Hp} {p : Addr} {xs : List V} : SqL K (upd H p (.lst xs)) p xs := .inl (.inl upd_same)
theorem SqT.new {K : PySem.W.Frag} {H : Hp} {p : Addr} {xs : List V} : SqT K (upd H p (.tup xs)) p xs := .inl (.inl upd_same)

/-! ### operators in the words that the readings like -/
section
variable {X : Cx}
/-- i << j, i of a usual size -/
theorem op_shlS : OpR X (binaryOp .LShift) (fun x y H Q => ∃ i j : Int, x = .int i ∧ y = .int j ∧ (i.natAbs < 2 ^ 1000 ∧ 0 ≤ j ∧ j ≤ 100000) ∧ Q (.int (i * 2 ^ j.toNat)) H) := by
  intro pins s σ H x y v u Q I rx ry h
  obtain ⟨i, j, rfl, rfl, ⟨c0, c1, c2⟩, q⟩ := h
  exact op_shlW pins s σ H _ _ v u Q I rx ry ⟨i, j, rfl, rfl, shlN c0 c1 c2, q⟩
theorem nat_small {i : Int} (h : i.natAbs ≤ 18446744073709551616) : i.natAbs < 2 ^ 1000 := Nat.lt_of_le_of_lt h (by decide +kernel)
/-- 1 << j -/
theorem op_shl1 : OpR X (binaryOp .LShift) (fun x y H Q => ∃ j : Int, x = .int 1 ∧ y = .int j ∧ (0 ≤ j ∧ j ≤ 100000) ∧ Q (.int (2 ^ j.toNat)) H) := by
  intro pins s σ H x y v u Q I rx ry h
  obtain ⟨j, rfl, rfl, ⟨c1, c2⟩, q⟩ := h
  refine op_shlW pins s σ H _ _ v u Q I rx ry ⟨1, j, rfl, rfl, shl1 c1 c2, ?_⟩
  show Q (.int (1 * 2 ^ j.toNat)) H
  rw [Int.one_mul]; exact q
end
/-- isinstance(x, T) of a value of a type of its own -/
theorem isi_int {K : PySem.W.Frag} {H : Hp} {i : Int} {Q : VK} (q : Q (.bl true) H) : rIsi K [.int i, .ty "int"] H Q := ⟨.int i, .ty "int", _, _, true, rfl, .ty _, .base (.int _), kit_ty (by decide +kernel), q⟩
theorem isi_int_bool {K : PySem.W.Frag} {H : Hp} {i : Int} {Q : VK} (q : Q (.bl false) H) : rIsi K [.int i, .ty "bool"] H Q := ⟨.int i, .ty "bool", _, _, false, rfl, .ty _, .base (.int _), kit_ty (by decide +kernel), q⟩
theorem isi_list {K : PySem.W.Frag} {H : Hp} {a : Addr} {xs : List V} {Q : VK} (h : H a = some (.lst xs)) (q : Q (.bl true) H) : rIsi K [.ref a, .ty "list"] H Q := ⟨.ref a, .ty "list", _, _, true, rfl, .ty _, .base (.lst h), kit_ty (by decide +kernel), q⟩
theorem isi_tup {K : PySem.W.Frag} {H : Hp} {a : Addr} {xs : List V} {Q : VK} (h : H a = some (.tup xs)) (q : Q (.bl true) H) : rIsi K [.ref a, .ty "tuple"] H Q := ⟨.ref a, .ty "tuple", _, _, true, rfl, .ty _, .base (.tup h), kit_ty (by decide +kernel), q⟩
theorem isi_str {K : PySem.W.Frag} {H : Hp} {z : Str} {Q : VK} (q : Q (.bl true) H) : rIsi K [.str z, .ty "str"] H Q := ⟨.str z, .ty "str", _, _, true, rfl, .ty _, .base (.str _), kit_ty (by decide +kernel), q⟩
/-! ### lists of ints -/
theorem at_ints {ns : List Int} {k : Nat} (h : k < ns.length) : atI (ns.map V.int) (k : Int) = some (.int (ns.getD k 0)) := atI_nat (by
  rw [List.getElem?_map, List.getElem?_eq_getElem h, List.getD_eq_getElem?_getD, List.getElem?_eq_getElem h]; rfl)
theorem cut_to (xs : List V) (k : Nat) : cutV xs none (some (k : Int)) = xs.take k := by
  unfold cutV
  rw [HT.sIx_nat, HT.sIx_none, List.drop_zero, Nat.sub_zero]
  rcases Nat.le_total k xs.length with h | h
  · rw [Nat.min_eq_left h]
  · rw [Nat.min_eq_right h, List.take_length, List.take_of_length_le h]
theorem cut_from (xs : List V) (k : Nat) : cutV xs (some (k : Int)) none = xs.drop k := by
  unfold cutV
  rw [HT.sIx_nat, HT.sIx_none]
  rcases Nat.le_total k xs.length with h | h
  · rw [Nat.min_eq_left h]; exact List.take_of_length_le (by rw [List.length_drop]; exact Nat.le_refl _)
  · rw [Nat.min_eq_right h, Nat.sub_self, List.take_zero, List.drop_eq_nil_of_le h]
/-! ### a reading, gone through as far as it goes by sight -/
local macro_rules | `(tactic| walk_at "side") => `(tactic| first
  | (show _ = _; rfl)
  | (show (0 : Int) < _; first | omega | exact pow_pos2 _)
  | (show (0 : Int) ≤ _; omega)
  | (show (0 : Int) ≤ _ ∧ _; constructor <;> omega)
  | (show (0 : Int) < _ ∧ _; constructor <;> omega)
  | (show (_ < _ ∧ _ < _) ∨ (_ < _ ∧ _ < _); first | exact .inl ⟨by omega, by omega⟩ | exact .inr ⟨by omega, by omega⟩))
local macro_rules | `(tactic| walk_at "loop") => `(tactic| (show ∃ W : (Nat → Nat → L2.St → Hp → Prop), _))
local macro_rules | `(tactic| walk_at "go1") => `(tactic| (fail_if_success walk_at "loop"); first
  | refine And.intro (show (_ : Int) ≤ _ by omega) ?_
  | refine ⟨_, rfl, ?_⟩
  | refine ⟨_, _, rfl, rfl, ?_⟩
  | refine ⟨_, rfl, rfl, ?_⟩
  | refine .inl ⟨_, rfl, ?_⟩
  | refine ⟨_, .ty "int", _, _, true, rfl, .ty _, .base (.int _), kit_ty (by decide +kernel), ?_⟩
  | refine ⟨_, .ty "bool", _, _, false, rfl, .ty _, .base (.int _), kit_ty (by decide +kernel), ?_⟩
  | refine ⟨_, .ty "bool", _, _, false, rfl, .ty _, .base (.str _), kit_ty (by decide +kernel), ?_⟩
  | refine ⟨_, .ty "str", _, _, true, rfl, .ty _, .base (.str _), kit_ty (by decide +kernel), ?_⟩
  | refine ⟨_, .ty "list", _, _, true, rfl, .ty _, .base (.lst (by assumption)), kit_ty (by decide +kernel), ?_⟩
  | refine ⟨_, .ty "tuple", _, _, true, rfl, .ty _, .base (.tup (by assumption)), kit_ty (by decide +kernel), ?_⟩
  | refine ⟨_, _, rfl, .inl (by assumption), ?_⟩
  | refine ⟨_, _, rfl, .inr (by assumption), ?_⟩
  | refine ⟨_, _, rfl, ?_⟩
  | refine ⟨_, _, _, _, rfl, rfl, by assumption, at_ints (by omega), ?_⟩
  | refine ⟨_, _, _, _, rfl, rfl, by assumption, rfl, ?_⟩
  | refine iteF ?_
  | refine iteT ?_
  | refine iteNS rfl ?_
  | (refine And.intro ?h1 ?h2; case h1 => first
    | walk_at "side"
    | assumption
    | (show (_ : Nat) ≤ _; omega)
    | (show (_ : Int) ≤ _; omega)
    | (show (_ : Int) < _; omega)
    | (show 0 ≤ sizeLine; decide)
    | (show 1 ≤ sizeLine; decide)
    | (show 2 ≤ sizeLine; decide)
    | (show 3 ≤ sizeLine; decide)
    | (show 4 ≤ sizeLine; decide)
    | (show (_ : Nat) ≤ _; decide)))
local macro_rules | `(tactic| walk_at "go") => `(tactic| repeat walk_at "go1")
/-! ### tests that read alone, loops -/
theorem tor_b {t u : TT} {σ : L2.St} {H : Hp} {Q : Bool → Hp → Prop} (b1 b2 : Bool) (h1 : ∀ Q, Q b1 H → t σ H Q) (h2 : ∀ Q, Q b2 H → u σ H Q) (q : Q (b1 || b2) H) : tOr t u σ H Q := by
  refine h1 _ ?_
  cases b1 with
  | true => rw [if_pos rfl]; exact q
  | false => rw [if_neg (by decide)]; exact h2 _ q
theorem tand_b {t u : TT} {σ : L2.St} {H : Hp} {Q : Bool → Hp → Prop} (b1 b2 : Bool) (h1 : ∀ Q, Q b1 H → t σ H Q) (h2 : ∀ Q, Q b2 H → u σ H Q) (q : Q (b1 && b2) H) : tAnd t u σ H Q := by
  refine h1 _ ?_
  cases b1 with
  | true => rw [if_pos rfl]; exact h2 _ q
  | false => rw [if_neg (by decide)]; exact q
theorem while_ev {c : TT} {tb : TS} {D : Ends} {σ : L2.St} {H : Hp} (Pv : L2.St → Hp → Prop) (μ : L2.St → Hp → Nat) (h0 : Pv σ H)
    (hs : ∀ σ H, Pv σ H → ∃ b : Bool, (∀ Q, Q b H → c σ H Q) ∧ (b = true → tb { D with nx := fun σ' H' => Pv σ' H' ∧ μ σ' H' < μ σ H, ct := fun σ' H' => Pv σ' H' ∧ μ σ' H' < μ σ H, bk := D.nx } σ H) ∧ (b = false → D.nx σ H)) : tWhile c tb D σ H := by
  refine ⟨fun m σ H => m = μ σ H ∧ Pv σ H, ⟨_, rfl, h0⟩, ?_⟩
  rintro m σ H ⟨rfl, p⟩
  obtain ⟨b, h1, h2, h3⟩ := hs σ H p
  refine h1 _ ?_
  cases b with
  | true => exact ⟨_, fun σ' H' ⟨p', l⟩ => ⟨_, l, rfl, p'⟩, h2 rfl⟩
  | false => exact h3 rfl
/-- the loops' bookkeeping, with what follows and what returns told apart -/
theorem for_listD {K : PySem.W.Frag} {a : Addr} {xs : List V} {g : TG} {tb : TS} {nx : L2.St → Hp → Prop} {rt : VK} {σ : L2.St} {H : Hp} (Pv : Nat → L2.St → Hp → Prop) (h0 : Pv 0 σ H) (hl : ∀ i σ H, i ≤ xs.length → Pv i σ H → SqL K H a xs)
    (hs : ∀ i x σ H, xs[i]? = some x → Pv i σ H → g x σ H fun σ2 H2 => tb { nx := Pv (i + 1), rt := rt, bk := nx, ct := Pv (i + 1) } σ2 H2) (hd : ∀ σ H, Pv xs.length σ H → nx σ H) :
    ∃ W : Nat → Nat → L2.St → Hp → Prop, (∃ m, W 0 m σ H) ∧ ∀ i m σ H, W i m σ H → ((Itl K a).stop i H ∧ nx σ H) ∨ ((Itl K a).go i H ∧ ∃ N : L2.St → Hp → Prop, (∀ σ' H', N σ' H' → ∃ m', m' < m ∧ W (i + 1) m' σ' H') ∧
      ∀ x H', (Itl K a).yld i H x H' → g x σ H' fun σ2 H2 => tb { nx := N, rt := rt, bk := nx, ct := N } σ2 H2) := for_list (D := { nx := nx, rt := rt }) Pv h0 hl hs hd
theorem for_rangeD {lo : Int} {n : Nat} {g : TG} {tb : TS} {nx : L2.St → Hp → Prop} {rt : VK} {σ : L2.St} {H : Hp} (Pv : Nat → L2.St → Hp → Prop) (h0 : Pv 0 σ H)
    (hs : ∀ i σ H, i < n → Pv i σ H → g (.int (lo + i)) σ H fun σ2 H2 => tb { nx := Pv (i + 1), rt := rt, bk := nx, ct := Pv (i + 1) } σ2 H2) (hd : ∀ σ H, Pv n σ H → nx σ H) :
    ∃ W : Nat → Nat → L2.St → Hp → Prop, (∃ m, W 0 m σ H) ∧ ∀ i m σ H, W i m σ H → ((Itr lo n).stop i H ∧ nx σ H) ∨ ((Itr lo n).go i H ∧ ∃ N : L2.St → Hp → Prop, (∀ σ' H', N σ' H' → ∃ m', m' < m ∧ W (i + 1) m' σ' H') ∧
      ∀ x H', (Itr lo n).yld i H x H' → g x σ H' fun σ2 H2 => tb { nx := N, rt := rt, bk := nx, ct := N } σ2 H2) := for_range (D := { nx := nx, rt := rt }) Pv h0 hs hd
/-! ### a comprehension that makes f of each item -/
theorem lc_map {K : PySem.W.Frag} {a : Addr} {xs : List V} {j : Nat} {te : TE} {σ : L2.St} {H1 : Hp} {D : Addr} {Qd : Hp → Prop} (f : V → V) (hD : H1 D = none) (hS : SqL K H1 a xs) (hn : xs.length ≤ 100000)
    (hs : ∀ x H Q, x ∈ xs → Same H1 H → (∀ H', Same H H' → Q (f x) H') → te ((σ.set j none).set j (some x)) H Q) (hd : ∀ H, Same H1 H → H D = some (.lst (xs.map f)) → Qd H) :
    ∃ W : Nat → Nat → Hp → Prop, (∃ m, W 0 m (upd H1 D (.lst []))) ∧ ∀ i m H, W i m H →
      ((Itl K a).stop i H ∧ Qd H) ∨ ((Itl K a).go i H ∧ ∃ Nx : Hp → Prop, (∀ H', Nx H' → ∃ m', m' < m ∧ W (i + 1) m' H') ∧ ∀ x H', (Itl K a).yld i H x H' → gName j x (wipe σ [j]) H' fun σ2 H2 => wipe σ2 [j] = wipe σ [j] ∧ tYes σ2 H2 fun b H3 =>
        if b = true then te σ2 H3 fun y H4 => ∃ acc, H4 D = some (.lst acc) ∧ acc.length < sizeLine ∧ Nx (upd H4 D (.lst (acc ++ [y]))) else Nx H3) := by
  refine lc_list (xs := xs) (fun i H => Same H1 H ∧ H D = some (.lst ((xs.take i).map f))) ⟨Same.new hD, by rw [upd_same]; rfl⟩ (fun i H _ h => h.1.seq hS) (fun i x H hx h => ?_) (fun H h => hd H h.1 (by rw [List.take_length] at h; exact h.2))
  have hi : i < xs.length := (List.getElem?_eq_some_iff.mp hx).1
  refine ⟨?_, ?_⟩
  · show (((σ.set j none).set j (some x)).set j none) = σ.set j none
    rw [List.set_set, List.set_set]
  · simp only [tYes, if_true]
    refine hs x H _ (List.mem_of_getElem? hx) h.1 fun H' s' => ?_
    refine ⟨_, s' _ _ h.2, ?_, fun b o e => ?_, ?_⟩
    · rw [List.length_map, List.length_take]; exact small64' (by omega)
    · have nb : b ≠ D := fun z => by rw [z, hD] at e; cases e
      rw [upd_ne nb]; exact s' _ _ (h.1 _ _ e)
    · rw [upd_same, List.take_add_one, hx, List.map_append]; rfl

/-! ### own errors with fields -/
/-- what the top has written of an own error's class, whose base is ValueError by some way -/
structure ExK (K : PySem.W.Frag) (mg : Str → Option Value) (x : Str) (C : Addr) : Prop where
  g : mg x = some (.ref C)
  T : OexC K C
  ga : PySem.W.findIn K (.ref C) "__getattribute__" = some (some (.builtin "BaseException.__getattribute__"))
  gg : PySem.W.findIn K (.ref C) "__getattr__" = some none
  hd : PySem.W.hasDictIn K C = true
  ca : PySem.W.findIn K (.ref C) "__class__" = some (some (.builtin "object.__class__"))
  sp : PySem.W.specialIn K (.builtin "object.__class__") "__get__" = some (some (.builtin "getset_descriptor.__get__"))
  tk : PySem.W.takesIn K (.builtin "object.__class__") = some true
  mr : PySem.W.mroIn K C (.type "object") = some true
theorem ExK.xf {K : PySem.W.Frag} {mg : Str → Option Value} {x : Str} {C : Addr} (k : ExK K mg x C) : XfC K C := ⟨k.ga, k.gg, k.T.exC, k.hd⟩
def spI1 (K : PySem.W.Frag) (C : Addr) (a : Str) : Sp := fun vs H Q _ => ∃ (s : Addr) (v : V), vs = [.ref s, v] ∧ H s = some (exo s C none) ∧
  ∀ d, H d = none → d ≠ s → Q .non (upd (upd H d (exd d [(a, v)])) s (exo s C (some d)))
def spI2 (K : PySem.W.Frag) (C : Addr) (a b : Str) : Sp := fun vs H Q _ => ∃ (s : Addr) (v u : V), vs = [.ref s, v, u] ∧ H s = some (exo s C none) ∧
  ∀ d, H d = none → d ≠ s → Q .non (upd (upd (upd H d (exd d [(a, v)])) s (exo s C (some d))) d (exd d [(b, u), (a, v)]))
theorem del_upd {H : Hp} {s d : Addr} {o o' : HO} (hs : H s = none) (hd : H d = none) (ne : d ≠ s) {K : Hp} (hK : ∀ b, b ≠ s → b ≠ d → K b = H b) : Same H (upd (del K s) d o) := fun b x e => by
  have nd : b ≠ d := ne_of_none e hd
  have ns : b ≠ s := ne_of_none e hs
  rw [upd_ne nd, del_ne ns, hK b ns nd]; exact e
/-- X(v): an error flies whose dict, new at d, holds the field; all else stands -/
theorem fly1 {K : PySem.W.Frag} {C : Addr} {a : Str} {v : V} {H : Hp} {Q : XK} (h : ∀ d Hf, Same H Hf → Hf d = some (.xd [(a, v)]) → Q (.ref C) (some d) Hf) :
    ([v] : List V).length ≤ 1000 ∧ ∀ s, H s = none → spI1 K C a (.ref s :: ([v] ++ [])) (upd H s (exo s C none))
      (fun v H2 => v = .non ∧ ∃ (d : Addr) (fs : List (Str × V)), H2 s = some (exo s C (some d)) ∧ H2 d = some (exd d fs) ∧ H d = none ∧ Q (.ref C) (some d) (upd (del H2 s) d (.xd fs))) (fun _ _ _ => False) := by
  refine ⟨by show 1 ≤ 1000; decide, fun s hs => ⟨s, v, rfl, upd_same, fun d hd ne => ⟨rfl, d, [(a, v)], upd_same, ?_, ?_, ?_⟩⟩⟩
  · rw [upd_ne ne, upd_same]
  · rw [upd_ne ne] at hd; exact hd
  · have hd' : H d = none := by rw [upd_ne ne] at hd; exact hd
    refine h d _ (del_upd (o' := .lst []) hs hd' ne fun b nb nd => ?_) upd_same
    rw [upd_ne nb, upd_ne nd, upd_ne nb]
theorem fly2 {K : PySem.W.Frag} {C : Addr} {a b : Str} {v u : V} {H : Hp} {Q : XK} (h : ∀ d Hf, Same H Hf → Hf d = some (.xd [(b, u), (a, v)]) → Q (.ref C) (some d) Hf) :
    ([v, u] : List V).length ≤ 1000 ∧ ∀ s, H s = none → spI2 K C a b (.ref s :: ([v, u] ++ [])) (upd H s (exo s C none))
      (fun v H2 => v = .non ∧ ∃ (d : Addr) (fs : List (Str × V)), H2 s = some (exo s C (some d)) ∧ H2 d = some (exd d fs) ∧ H d = none ∧ Q (.ref C) (some d) (upd (del H2 s) d (.xd fs))) (fun _ _ _ => False) := by
  refine ⟨by show 2 ≤ 1000; decide, fun s hs => ⟨s, v, u, rfl, upd_same, fun d hd ne => ⟨rfl, d, [(b, u), (a, v)], ?_, upd_same, ?_, ?_⟩⟩⟩
  · rw [upd_ne ne.symm, upd_same]
  · rw [upd_ne ne] at hd; exact hd
  · have hd' : H d = none := by rw [upd_ne ne] at hd; exact hd
    refine h d _ (del_upd (o' := .lst []) hs hd' ne fun b nb nd => ?_) upd_same
    rw [upd_ne nd, upd_ne nb, upd_ne nd, upd_ne nb]
section
variable {P : Program} {w : World} {K : PySem.W.Frag} {mg : Str → Option Value} {base : Heap} {C f : Addr} {fd : FuncData} {qual : Str}
/-- an __init__ that stores its one parameter, its two parameters, under their names -/
theorem init1 {st : Stmt} {a : Str} (F : L2.Fun K "__init__" qual st f fd) (S : FnScope ["self", a] ["self", a] (defScope st)) (T : OexC K C) (na : PySem.W.findIn K (.ref C) a = some none) {p1 p2 p3 p4 : Pos} (hb : defBody st = [.Assign [.Attribute (.Name "self" p1) a p2] (.Name a p3) p4])
    (va : Vis (defScope st) a) (vs : Vis (defScope st) "self") (d1 : (a == ("__debug__" : Str)) = false) (d2 : (a == ("__classdict__" : Str)) = false) : FnOk P w K mg base CX0 1 f fd ["self", a] (spI1 K C a) := by
  refine F.ok S (fun vs H Q E h => ?_) (fun cdv A outer s H vs Q E hr h => ?_)
  · obtain ⟨s, v, rfl, _⟩ := h; rfl
  · obtain ⟨s, v, rfl, hs, q⟩ := h
    rw [hb]
    refine ⟨_, pss_one (ps_ost (pe_var (i := 0) rfl (by assumption)) (pe_var (i := 1) rfl (by assumption) d1 d2)), ?_⟩
    exact ⟨_, rfl, _, rfl, s, C, rfl, T, na, .inl ⟨hs, fun d hd ne => q d hd ne⟩⟩
theorem init2 {st : Stmt} {a b : Str} (F : L2.Fun K "__init__" qual st f fd) (S : FnScope ["self", a, b] ["self", a, b] (defScope st)) (T : OexC K C) (na : PySem.W.findIn K (.ref C) a = some none) (nb : PySem.W.findIn K (.ref C) b = some none) {p1 p2 p3 p4 q1 q2 q3 q4 : Pos}
    (hb : defBody st = [.Assign [.Attribute (.Name "self" p1) a p2] (.Name a p3) p4, .Assign [.Attribute (.Name "self" q1) b q2] (.Name b q3) q4])
    (va : Vis (defScope st) a) (vb : Vis (defScope st) b) (vs : Vis (defScope st) "self") (d1 : (a == ("__debug__" : Str)) = false) (d2 : (a == ("__classdict__" : Str)) = false) (d3 : (b == ("__debug__" : Str)) = false) (d4 : (b == ("__classdict__" : Str)) = false) : FnOk P w K mg base CX0 1 f fd ["self", a, b] (spI2 K C a b) := by
  refine F.ok S (fun vs H Q E h => ?_) (fun cdv A outer s H vs Q E hr h => ?_)
  · obtain ⟨s, v, u, rfl, _⟩ := h; rfl
  · obtain ⟨s, v, u, rfl, hs, q⟩ := h
    rw [hb]
    refine ⟨_, pss_cons (ps_ost (pe_var (i := 0) rfl (by assumption)) (pe_var (i := 1) rfl (by assumption) d1 d2)) (pss_one (ps_ost (pe_var (i := 0) rfl (by assumption)) (pe_var (i := 2) rfl (by assumption) d3 d4))), ?_⟩
    refine ⟨_, rfl, _, rfl, s, C, rfl, T, na, .inl ⟨hs, fun d hd ne => ?_⟩⟩
    exact ⟨_, rfl, _, rfl, s, C, rfl, T, nb, .inr ⟨d, _, upd_same, by rw [upd_ne ne, upd_same], (by show 1 ≤ 900; decide), q d hd ne⟩⟩
end
/-- isinstance(e, c), e the caught error at a, of the class D, its dict at dd -/
theorem call_isX {X : Cx} {a D : Addr} {oe : Obj} {cls : Value} {d : Option Addr} {pn : List (Addr × Obj)} (hz : Zc cls d oe) (hf : ∃ vs, oe.data = .fields vs) {x : Str} (k : ExK X.K X.mg x D) : CallR (X.suite a ((a, oe) :: pn)) (.builtin "isinstance")
    (fun xs H Q => ∃ (c : V) (cv : Value) (b : Bool) (dd : Addr) (fs : List (Str × V)), xs = [.ref a, c] ∧ cls = .ref D ∧ d = some dd ∧ H dd = some (.xd fs) ∧ RelV c cv ∧ (∀ u, RelV c u → u = cv) ∧ PySem.W.kitOne X.K (.ref D) cv = some b ∧ Q (.bl b) H) := by
  intro pins s σ H xs us Q I r h
  obtain ⟨c, cv, b, dd, fs, rfl, rfl, rfl, ea, _, hcv, e, q⟩ := h
  obtain ⟨u1, u2, rfl, r1, r2⟩ := vals2 r
  cases r1
  have ec := hcv _ r2
  subst ec
  obtain ⟨hget, _⟩ := I.pin (a, oe) (List.mem_append.mpr (.inl List.mem_cons_self))
  obtain ⟨vs, hv⟩ := hf
  have hx : ObjOk X.prog X.w H s.heap dd (.xd fs) := I.hok dd _ ea
  obtain ⟨mA, ⟨od, es, ep, ho, hl⟩, hr⟩ := hx
  have J : PySem.W.InstAt s.heap a oe D (some od) := ⟨hget, hz.1, by unfold PySem.W.notCls; rw [hv] <;> rfl, by rw [hz.2]; exact ho⟩
  have hc : (PySem.W.clsIn X.K D).isSome = true := by
    have h := k.hd
    unfold PySem.W.hasDictIn at h
    cases hh : PySem.W.clsIn X.K D with
    | none => rw [hh] at h; cases h
    | some cd => rfl
  exact PySem.W.kia_one (PySem.W.kitx_exc hc k.ga k.gg k.T.exC k.ca k.sp k.tk k.mr) I.kIn J e (fun z => nomatch z) fun tk => ⟨.bl b, H, I.kept (t' := tk) fun _ _ z => z, rfl, q⟩
/-- what isinstance and an except clause ask of own classes -/
theorem kit_self {K : PySem.W.Frag} {C : Addr} : PySem.W.kitOne K (.ref C) (.ref C) = some true := by
  unfold PySem.W.kitOne
  rw [if_pos (by exact beq_self_eq_true (Value.ref C))]
theorem kit_two {K : PySem.W.Frag} {D C : Addr} {b : Bool} (ne : (Value.ref D == Value.ref C) = false) (hd : PySem.W.hasDictIn K C = true) (ht : PySem.W.typeIn K (.ref C) = some (.type "type")) (hs : PySem.W.subIn K (.ref D) (.ref C) = some b) : PySem.W.kitOne K (.ref D) (.ref C) = some b := by
  have hc : (PySem.W.clsIn K C).isSome = true := by
    unfold PySem.W.hasDictIn at hd
    cases hh : PySem.W.clsIn K C with
    | none => rw [hh] at hd; cases hd
    | some cd => rfl
  unfold PySem.W.kitOne PySem.W.kitCls
  rw [ne, if_neg (by decide)]
  show (if ((PySem.W.clsIn K C).isSome && PySem.W.typeIn K (.ref C) == some (.type "type")) = true then PySem.W.subIn K (.ref D) (.ref C) else none) = some b
  rw [hc, ht, hs]; rfl
theorem kit_ve {K : PySem.W.Frag} {D : Addr} (hs : PySem.W.subIn K (.ref D) (.type "ValueError") = some true) : PySem.W.kitOne K (.ref D) (.type "ValueError") = some true := by
  unfold PySem.W.kitOne PySem.W.kitCls
  rw [show (Value.ref D == Value.type "ValueError") = false from rfl, if_neg (by decide)]
  show (if PySem.W.kitMeta "ValueError" = true then PySem.W.subIn K (.ref D) (.type "ValueError") else none) = some true
  rw [if_pos (by decide +kernel), hs]

/-! ### methods and makers of own classes -/
structure DefM (K : PySem.W.Frag) (C : Addr) (m qual : Str) (st : Stmt) (ps : List Str) : Prop where
  ex : ∃ (f : Addr) (fd : FuncData), L2.Fun K m qual st f fd ∧ Meth K C m f ∧ Binds K fd ps []
structure DefI (K : PySem.W.Frag) (C : Addr) (qual : Str) (st : Stmt) (ps : List Str) : Prop where
  ex : ∃ (f : Addr) (fd : FuncData), L2.Fun K "__init__" qual st f fd ∧ Mk K C f ∧ Binds K fd ps []
structure CalM (P : Program) (w : World) (K : PySem.W.Frag) (mg : Str → Option Value) (base : Heap) (CX : CXT) (C : Addr) (k : Nat) (m : Str) (sp : Sp) : Prop where
  ex : ∃ (f : Addr) (fd : FuncData) (ps : List Str), FnOk P w K mg base CX k f fd ps sp ∧ Cls K C ∧ Meth K C m f ∧ Binds K fd ps []
structure CalI (P : Program) (w : World) (K : PySem.W.Frag) (mg : Str → Option Value) (base : Heap) (CX : CXT) (C : Addr) (k : Nat) (sp : Sp) : Prop where
  ex : ∃ (f : Addr) (fd : FuncData) (ps : List Str), FnOk P w K mg base CX k f fd ps sp ∧ Mk K C f ∧ Binds K fd ps []
section
variable {P : Program} {w : World} {K : PySem.W.Frag} {mg : Str → Option Value} {base : Heap} {k : Nat} {x m qual : Str} {sp sp' : Sp} {C : Addr}
theorem Def.none {st : Stmt} {N ps : List Str} (D : Def K mg x st ps) (S : FnScope N ps (defScope st)) : Cal P w K mg base CX0 (k + 1) x (fun _ _ _ _ => False) := D.ok S (fun _ _ _ _ h => h.elim) (fun _ _ _ _ _ _ _ _ _ _ h => h.elim)
theorem Def.noneX {st : Stmt} {N ps : List Str} (D : Def K mg x st ps) (S : FnScope N ps (defScope st)) : Cal P w K mg base (L2.CX P w) (k + 1) x (fun _ _ _ _ => False) := D.okX S (fun _ _ _ _ h => h.elim) (fun _ _ _ _ _ _ _ _ _ _ h => h.elim)
theorem DefM.ok {st : Stmt} {N ps : List Str} (D : DefM K C m qual st ps) (S : FnScope N ps (defScope st)) (cl : Cls K C) (len : ∀ vs H Q E, sp vs H Q E → vs.length = ps.length)
    (hbody : ∀ (f : Addr) (cdv : Value) (A : Around) (outer : List Env) (s : Shared) (H : Hp) (vs : List V) (Q : VK) (E : XK), Room k (A.deeper (envOfC qual (defScope st) s.heap.objs.size f cdv)) → sp vs H Q E →
      ∃ t, PSs (cxOf CX0 P w K mg base N qual (defScope st) f cdv A outer s H E).nox (defBody st) t ∧ t { nx := fun _ H' => Q .non H', rt := Q } (start N vs) H) : CalM P w K mg base CX0 C (k + 1) m sp := by
  obtain ⟨f, fd, F, mm, b⟩ := D.ex
  exact ⟨f, fd, ps, F.ok S len (hbody f), cl, mm, b⟩
theorem DefM.okX {st : Stmt} {N ps : List Str} (D : DefM K C m qual st ps) (S : FnScope N ps (defScope st)) (cl : Cls K C) (len : ∀ vs H Q E, sp vs H Q E → vs.length = ps.length)
    (hbody : ∀ (f : Addr) (cdv : Value) (A : Around) (outer : List Env) (s : Shared) (H : Hp) (vs : List V) (Q : VK) (E : XK), Room k (A.deeper (envOfC qual (defScope st) s.heap.objs.size f cdv)) → sp vs H Q E →
      ∃ t, PSs (cxOf (L2.CX P w) P w K mg base N qual (defScope st) f cdv A outer s H E) (defBody st) t ∧ t { nx := fun _ H' => Q .non H', rt := Q } (start N vs) H) : CalM P w K mg base (L2.CX P w) C (k + 1) m sp := by
  obtain ⟨f, fd, F, mm, b⟩ := D.ex
  exact ⟨f, fd, ps, F.okX S len (hbody f), cl, mm, b⟩
theorem DefM.noneX {st : Stmt} {N ps : List Str} (D : DefM K C m qual st ps) (S : FnScope N ps (defScope st)) (cl : Cls K C) : CalM P w K mg base (L2.CX P w) C (k + 1) m (fun _ _ _ _ => False) := D.okX S cl (fun _ _ _ _ h => h.elim) (fun _ _ _ _ _ _ _ _ _ _ h => h.elim)
theorem DefI.ok {st : Stmt} {N ps : List Str} (D : DefI K C qual st ps) (S : FnScope N ps (defScope st)) (len : ∀ vs H Q E, sp vs H Q E → vs.length = ps.length)
    (hbody : ∀ (f : Addr) (cdv : Value) (A : Around) (outer : List Env) (s : Shared) (H : Hp) (vs : List V) (Q : VK) (E : XK), Room k (A.deeper (envOfC qual (defScope st) s.heap.objs.size f cdv)) → sp vs H Q E →
      ∃ t, PSs (cxOf CX0 P w K mg base N qual (defScope st) f cdv A outer s H E).nox (defBody st) t ∧ t { nx := fun _ H' => Q .non H', rt := Q } (start N vs) H) : CalI P w K mg base CX0 C (k + 1) sp := by
  obtain ⟨f, fd, F, mm, b⟩ := D.ex
  exact ⟨f, fd, ps, F.ok S len (hbody f), mm, b⟩
end
section
variable {X : Cx} {k j : Nat} {x m : Str} {sp : Sp} {p pos apos : Pos} {o e : Expr} {es : List Expr} {ta : TE} {t : TA} {CX : CXT} {E : XK} {C : Addr}
theorem pe_mE {pl : Sem Bool} (c : CalM X.prog X.w X.K X.mg X.base CX C k m sp) (hr : Room j X.A) (hk : k ≤ j) (hx : Passes CX X E) (he : PE X o ta) (ha : PA X (e :: es) t)
    (hst : starEach (e :: es) X.env = (false, eval e X.env) :: starEach es X.env := by rfl) (hpl : (backTo pos (starEach es X.env)).any (·.1) = false := by rfl)
    (ht : eval (.Call (.Attribute o m apos) (e :: es) [] pos) X.env = (do
      let ov ← eval o X.env
      standAt apos.atName
      let (f, first) ← holding [ov] (getMethod ov m pl)
      callWith pos f first (backTo pos (starEach (e :: es) X.env)) (backToKw pos (keywordEach [] X.env))) := by rfl) :
    PE X (.Call (.Attribute o m apos) (e :: es) [] pos) (tMeth C m sp [] E ta t) := by
  obtain ⟨f, fd, ps, F, cl, mm, b⟩ := c.ex
  exact pe_meth (pl := pl) he cl mm F (hr.mono hk) b .nil hx ha hst hpl ht
theorem pe_mE0 {pl : Sem Bool} (c : CalM X.prog X.w X.K X.mg X.base CX C k m sp) (hr : Room j X.A) (hk : k ≤ j) (hx : Passes CX X E) (he : PE X o ta)
    (ht : eval (.Call (.Attribute o m apos) [] [] pos) X.env = (do
      let ov ← eval o X.env
      standAt apos.atName
      let (f, first) ← holding [ov] (getMethod ov m pl)
      callWith pos f first (backTo pos (starEach [] X.env)) (backToKw pos (keywordEach [] X.env))) := by rfl) :
    PE X (.Call (.Attribute o m apos) [] [] pos) (tMeth C m sp [] E ta tNil) := by
  obtain ⟨f, fd, ps, F, cl, mm, b⟩ := c.ex
  exact pe_meth0 (pl := pl) he cl mm F (hr.mono hk) b .nil hx ht
theorem pe_nw (c : CalI X.prog X.w X.K X.mg X.base CX0 C k sp) (hr : Room j X.A) (hk : k + 1 ≤ j) (hg : Gl X x) (hm : X.mg x = some (.ref C)) (ha : PA X (e :: es) t)
    (hdb : (x == ("__debug__" : Str)) = false := by decide) (he : starEach (e :: es) X.env = (false, eval e X.env) :: starEach es X.env := by rfl) (hpl : (backTo pos (starEach es X.env)).any (·.1) = false := by rfl) :
    PE X (.Call (.Name x p) (e :: es) [] pos) (tMake C sp [] E0 t) := by
  obtain ⟨f, fd, ps, F, mm, b⟩ := c.ex
  exact pe_make mm F (hr.mono hk) hg hm b .nil pass0 ha hdb he hpl
theorem pe_nw0 (c : CalI X.prog X.w X.K X.mg X.base CX0 C k sp) (hr : Room j X.A) (hk : k + 1 ≤ j) (hg : Gl X x) (hm : X.mg x = some (.ref C))
    (hdb : (x == ("__debug__" : Str)) = false := by decide) : PE X (.Call (.Name x p) [] [] pos) (tMake C sp [] E0 tNil) := by
  obtain ⟨f, fd, ps, F, mm, b⟩ := c.ex
  exact pe_make0 mm F (hr.mono hk) hg hm b .nil pass0 hdb
end
/-- the heap behind a change of some objects: all others stand -/
def SameBut (ps : List Addr) (H H' : Hp) : Prop := ∀ b o, b ∉ ps → H b = some o → H' b = some o
theorem Same.but {ps : List Addr} {H H' : Hp} (s : Same H H') : SameBut ps H H' := fun b o _ e => s b o e
theorem SameBut.refl {ps : List Addr} (H : Hp) : SameBut ps H H := fun _ _ _ e => e
theorem SameBut.trans {ps : List Addr} {H1 H2 H3 : Hp} (a : SameBut ps H1 H2) (b : SameBut ps H2 H3) : SameBut ps H1 H3 := fun c o n e => b c o n (a c o n e)
theorem SameBut.upd {ps : List Addr} {H H' : Hp} {a : Addr} {o : HO} (s : SameBut ps H H') (h : a ∈ ps) : SameBut ps H (upd H' a o) := fun b x n e => by
  have nb : b ≠ a := fun z => n (z ▸ h)
  rw [upd_ne nb]; exact s b x n e
theorem lk_hd {k : Str} {v : V} {r : List (Str × V)} : ((k, v) :: r).lookup k = some v := by
  simp [List.lookup]
theorem lk_tl {k a : Str} {v : V} {r : List (Str × V)} (h : ¬ k = a) : ((a, v) :: r).lookup k = r.lookup k := by
  show (match k == a with | true => some v | false => r.lookup k) = _
  rw [beq_eq_false_iff_ne.mpr h]
theorem pt_hd {k : Str} {v x : V} {r : List (Str × V)} : putF k v ((k, x) :: r) = (k, v) :: r := if_pos rfl
theorem pt_tl {k a : Str} {v x : V} {r s : List (Str × V)} (h : ¬ a = k) (e : putF k v r = s) : putF k v ((a, x) :: r) = (a, x) :: s := (if_neg h).trans (congrArg _ e)
theorem pt_nl {k : Str} {v : V} : putF k v [] = [(k, v)] := rfl
theorem made_same {H H2 : Hp} {x dx C : Addr} (nx : H x = none) (nd : H dx = none) (s : SameBut [x] (upd (upd H dx (.own x)) x (.ins C dx [])) H2) : Same H H2 := fun b o e => by
  have n1 : b ≠ x := ne_of_none e nx
  have n2 : b ≠ dx := ne_of_none e nd
  exact s b o (fun z => n1 (List.mem_singleton.mp z)) (by rw [upd_ne n1, upd_ne n2]; exact e)
theorem SameBut.new {ps : List Addr} {H H3 H4 : Hp} {t : Addr} (b3 : SameBut ps H H3) (b4 : SameBut [t] H3 H4) (h : H t = none) : SameBut ps H H4 := fun c o n e =>
  b4 c o (fun z => by rw [List.mem_singleton.mp z, h] at e; cases e) (b3 c o n e)
theorem Same.of_but {ps : List Addr} {H H1 H2 : Hp} (s : Same H H1) (b : SameBut ps H1 H2) (h : ∀ a ∈ ps, H a = none) : Same H H2 := fun c o e =>
  b c o (fun z => by rw [h c z] at e; cases e) (s c o e)
theorem SameBut.mono {ps qs : List Addr} {H H' : Hp} (s : SameBut ps H H') (h : ∀ a ∈ ps, a ∈ qs) : SameBut qs H H' := fun b o n e => s b o (fun z => n (h b z)) e

/-! ### makers with keyword-only parameters -/
structure DefK (K : PySem.W.Frag) (C : Addr) (qual : Str) (st : Stmt) (kws : List (Str × V)) : Prop where
  ex : ∃ (f : Addr) (fd : FuncData), FunD K "__init__" qual (defArgs st) (defBody st) (defScope st) [] kws f fd ∧ Mk K C f
structure CalK (P : Program) (w : World) (K : PySem.W.Frag) (mg : Str → Option Value) (base : Heap) (CX : CXT) (C : Addr) (k : Nat) (sp : Sp) (ks : List Str) (gV : List V → List V → List V) : Prop where
  ex : ∃ (f : Addr) (fd : FuncData) (ps : List Str) (g : List Value → List Value → List Value), FnOk P w K mg base CX k f fd ps sp ∧ Mk K C f ∧ KBn K fd ps 1 ks g gV
/-- an empty tuple of the written part -/
def EmpT (K : PySem.W.Frag) (a : Addr) : Prop := ∃ (o : Obj) (its : Array Value) (n : Nat), K.lookup a = some o ∧ o.cls = .type "tuple" ∧ o.data = .seq its n ∧ its.size ≤ sizeLine ∧ Vals [] its.toList
theorem EmpT.sq {K : PySem.W.Frag} {a : Addr} {H : Hp} (h : EmpT K a) : SqT K H a [] := .inr h
section
variable {P : Program} {w : World} {K : PySem.W.Frag} {mg : Str → Option Value} {base : Heap} {k : Nat} {qual : Str} {sp : Sp} {C : Addr}
theorem rel3 {vs mz zs : List V} {us mv ws : List Value} (r1 : Vals vs us) (r2 : Vals mz mv) (r3 : Vals zs ws) : Vals (vs ++ (zs ++ mz)) (us ++ (ws ++ mv)) := r1.append (r3.append r2)
theorem DefK.ok {st : Stmt} {N ps : List Str} {kws : List (Str × V)} (D : DefK K C qual st kws) (S : FnScope N ps (defScope st)) (ks : List Str) (ms : List (Str × V)) (hk : kws ≠ []) (hms : ∀ q ∈ ms, q ∈ kws)
    (hc : ∀ (D : Addr) (doc pm : Value) (an : Option Addr) (cdv ct : Value) (us mv ws : List Value), us.length = 1 → mv.length = ms.length → ws.length = ks.length →
      KwChain D ((ms.map (·.1)).zip mv) (bindArgs (PySem.W.fnOf "__init__" qual (defArgs st) (defBody st) (defScope st) .none (.ref D) doc pm an cdv ct) ⟨us, ks.zip ws⟩) (ps.zip (us ++ (ws ++ mv))))
    (len : ∀ vs H Q E, sp vs H Q E → vs.length = ps.length)
    (hbody : ∀ (f : Addr) (cdv : Value) (A : Around) (outer : List Env) (s : Shared) (H : Hp) (vs : List V) (Q : VK) (E : XK), Room k (A.deeper (envOfC qual (defScope st) s.heap.objs.size f cdv)) → sp vs H Q E →
      ∃ t, PSs (cxOf CX0 P w K mg base N qual (defScope st) f cdv A outer s H E).nox (defBody st) t ∧ t { nx := fun _ H' => Q .non H', rt := Q } (start N vs) H) :
    CalK P w K mg base CX0 C (k + 1) sp ks (fun vs zs => vs ++ (zs ++ ms.map (·.2))) := by
  obtain ⟨f, fd, F, mm⟩ := D.ex
  obtain ⟨mv, kb⟩ := F.kbinds0 (ps := ps) 1 ks ms (fun us mv ws => us ++ (ws ++ mv)) hk hms (fun r1 r2 r3 => rel3 r1 r2 r3) hc
  exact ⟨f, fd, ps, _, F.ok S len fun cdv A outer s H vs Q E hr h => by
    obtain ⟨t, ht, hq⟩ := hbody f cdv A outer s H vs Q E hr h
    exact ⟨t, ht.nox, hq⟩, mm, kb⟩
end
/-- given values and defaults, in the order of the names -/
def mixK {α : Type} : List Bool → List α → List α → List α
  | true :: b, w :: ws, ms => w :: mixK b ws ms
  | false :: b, ws, m :: ms => m :: mixK b ws ms
  | _, _, _ => []
theorem mix_rel : ∀ (b : List Bool) {zs mz : List V} {ws mv : List Value}, Vals zs ws → Vals mz mv → Vals (mixK b zs mz) (mixK b ws mv)
  | [], _, _, _, _, _, _ => .nil
  | true :: b, _, _, _, _, .cons r t, q => .cons r (mix_rel b t q)
  | true :: b, _, _, _, _, .nil, q => .nil
  | false :: b, _, _, _, _, p, .cons r t => .cons r (mix_rel b p t)
  | false :: b, _, _, _, _, .nil, .nil => .nil
  | false :: b, _, _, _, _, .cons _ _, .nil => .nil
section
variable {P : Program} {w : World} {K : PySem.W.Frag} {mg : Str → Option Value} {base : Heap} {k : Nat} {qual : Str} {sp : Sp} {C : Addr}
theorem DefK.okM {st : Stmt} {N ps : List Str} {kws : List (Str × V)} (D : DefK K C qual st kws) (b : List Bool) (S : FnScope N ps (defScope st)) (ks : List Str) (ms : List (Str × V)) (hk : kws ≠ []) (hms : ∀ q ∈ ms, q ∈ kws)
    (hc : ∀ (D : Addr) (doc pm : Value) (an : Option Addr) (cdv ct : Value) (us mv ws : List Value), us.length = 1 → mv.length = ms.length → ws.length = ks.length →
      KwChain D ((ms.map (·.1)).zip mv) (bindArgs (PySem.W.fnOf "__init__" qual (defArgs st) (defBody st) (defScope st) .none (.ref D) doc pm an cdv ct) ⟨us, ks.zip ws⟩) (ps.zip (us ++ mixK b ws mv)))
    (len : ∀ vs H Q E, sp vs H Q E → vs.length = ps.length)
    (hbody : ∀ (f : Addr) (cdv : Value) (A : Around) (outer : List Env) (s : Shared) (H : Hp) (vs : List V) (Q : VK) (E : XK), Room k (A.deeper (envOfC qual (defScope st) s.heap.objs.size f cdv)) → sp vs H Q E →
      ∃ t, PSs (cxOf CX0 P w K mg base N qual (defScope st) f cdv A outer s H E).nox (defBody st) t ∧ t { nx := fun _ H' => Q .non H', rt := Q } (start N vs) H) :
    CalK P w K mg base CX0 C (k + 1) sp ks (fun vs zs => vs ++ mixK b zs (ms.map (·.2))) := by
  obtain ⟨f, fd, F, mm⟩ := D.ex
  obtain ⟨mv, kb⟩ := F.kbinds0 (ps := ps) 1 ks ms (fun us mv ws => us ++ mixK b ws mv) hk hms (fun r1 r2 r3 => r1.append (mix_rel b r3 r2)) hc
  exact ⟨f, fd, ps, _, F.ok S len fun cdv A outer s H vs Q E hr h => by
    obtain ⟨t, ht, hq⟩ := hbody f cdv A outer s H vs Q E hr h
    exact ⟨t, ht.nox, hq⟩, mm, kb⟩
end
section
variable {X : Cx} {k j : Nat} {x : Str} {sp : Sp} {p pos : Pos} {kws : List Keyword} {tk : TA} {C : Addr} {ks : List Str} {gV : List V → List V → List V}
theorem pe_nk (c : CalK X.prog X.w X.K X.mg X.base CX0 C k sp ks gV) (hr : Room j X.A) (hk : k + 1 ≤ j) (hg : Gl X x) (hm : X.mg x = some (.ref C)) (hkw : PK X kws tk)
    (hall : (backToKw pos (keywordEach kws X.env)).all (·.1.isSome) = true := by rfl) (hks : (backToKw pos (keywordEach kws X.env)).filterMap (·.1) = ks := by rfl) (hdb : (x == ("__debug__" : Str)) = false := by decide)
    (hpl : ((backTo pos (starEach [] X.env)).any (·.1) || (backToKw pos (keywordEach kws X.env)).any (·.1.isNone)) = false := by rfl) :
    PE X (.Call (.Name x p) [] kws pos) (tMakeK C 0 ks.length sp gV E0 tNil tk) := by
  obtain ⟨f, fd, ps, g, F, mm, b⟩ := c.ex
  exact pe_makeK0 mm F (hr.mono hk) hg hm b pass0 hkw hall hks hdb hpl
end

/-! ### the text by places -/
def top (i : Nat) : Stmt := PySem.Challenge.pw_wasmhost_k43_items_fit_imports.main.body.getD i (.Pass ⟨0, 0, 0, 0⟩)
abbrev s_items_of : Stmt := top 4
abbrev s_host_functions : Stmt := top 5
abbrev s_check_signature : Stmt := top 15
abbrev s_add_host : Stmt := top 16
abbrev s_size_fits : Stmt := top 17
abbrev s_item_fits : Stmt := top 18
abbrev s__law_tape : Stmt := top 22
abbrev s__law_draw : Stmt := top 23
abbrev s__law_says : Stmt := top 24
abbrev s__law_signature : Stmt := top 25
abbrev s__law_near : Stmt := top 26
abbrev s__law_limit : Stmt := top 27
abbrev s__law_limit_fits : Stmt := top 28
abbrev s_law : Stmt := top 29
abbrev s_Table___init__ : Stmt := inClass (top 10) 0
abbrev s_Memory___init__ : Stmt := inClass (top 11) 0
abbrev s_Global___init__ : Stmt := inClass (top 12) 0
abbrev s_Store___init__ : Stmt := inClass (top 13) 0
abbrev s_Module___init__ : Stmt := inClass (top 20) 0
theorem sc_items_of : FnScope ["owner", "kind"] ["owner", "kind"] (defScope s_items_of) := ⟨rfl, rfl, rfl, by decide +kernel, rfl, by decide +kernel, by decide +kernel⟩
theorem sc_host_functions : FnScope ["store", "func", "row"] ["store"] (defScope s_host_functions) := ⟨rfl, rfl, rfl, by decide +kernel, rfl, by decide +kernel, by decide +kernel⟩
theorem sc_check_signature : FnScope ["params", "results"] ["params", "results"] (defScope s_check_signature) := ⟨rfl, rfl, rfl, by decide +kernel, rfl, by decide +kernel, by decide +kernel⟩
theorem sc_add_host : FnScope ["store", "params", "results", "number"] ["store", "params", "results"] (defScope s_add_host) := ⟨rfl, rfl, rfl, by decide +kernel, rfl, by decide +kernel, by decide +kernel⟩
theorem sc_size_fits : FnScope ["size", "most", "limit", "least", "greatest"] ["size", "most", "limit"] (defScope s_size_fits) := ⟨rfl, rfl, rfl, by decide +kernel, rfl, by decide +kernel, by decide +kernel⟩
theorem sc_item_fits : FnScope ["store", "module", "row", "number", "kind", "what", "item"] ["store", "module", "row", "number"] (defScope s_item_fits) := ⟨rfl, rfl, rfl, by decide +kernel, rfl, by decide +kernel, by decide +kernel⟩
theorem sc__law_tape : FnScope ["script", "tape", "cell", "number", "k", "first"] ["script"] (defScope s__law_tape) := ⟨rfl, rfl, rfl, by decide +kernel, rfl, by decide +kernel, by decide +kernel⟩
theorem sc__law_draw : FnScope ["tape", "at", "many", "number"] ["tape", "at", "many"] (defScope s__law_draw) := ⟨rfl, rfl, rfl, by decide +kernel, rfl, by decide +kernel, by decide +kernel⟩
theorem sc__law_says : FnScope ["actual", "due"] ["actual", "due"] (defScope s__law_says) := ⟨rfl, rfl, rfl, by decide +kernel, rfl, by decide +kernel, by decide +kernel⟩
theorem sc__law_signature : FnScope ["tape", "at", "kinds", "params", "k"] ["tape", "at"] (defScope s__law_signature) := ⟨rfl, rfl, rfl, by decide +kernel, rfl, by decide +kernel, by decide +kernel⟩
theorem sc__law_near : FnScope ["tape", "at", "size"] ["tape", "at", "size"] (defScope s__law_near) := ⟨rfl, rfl, rfl, by decide +kernel, rfl, by decide +kernel, by decide +kernel⟩
theorem sc__law_limit : FnScope ["tape", "at", "size", "most", "least"] ["tape", "at", "size", "most"] (defScope s__law_limit) := ⟨rfl, rfl, rfl, by decide +kernel, rfl, by decide +kernel, by decide +kernel⟩
theorem sc__law_limit_fits : FnScope ["size", "most", "limit"] ["size", "most", "limit"] (defScope s__law_limit_fits) := ⟨rfl, rfl, rfl, by decide +kernel, rfl, by decide +kernel, by decide +kernel⟩
theorem sc_law : FnScope ["script", "tape", "shapes", "own", "store", "func", "size", "most", "pages", "greatest", "mine", "module", "k", "kind", "j", "limit", "due", "mutable"] ["script"] (defScope s_law) := ⟨rfl, rfl, rfl, by decide +kernel, rfl, by decide +kernel, by decide +kernel⟩
theorem sc_Table___init__ : FnScope ["self", "size", "most"] ["self", "size", "most"] (defScope s_Table___init__) := ⟨rfl, rfl, rfl, by decide +kernel, rfl, by decide +kernel, by decide +kernel⟩
theorem sc_Memory___init__ : FnScope ["self", "pages", "most"] ["self", "pages", "most"] (defScope s_Memory___init__) := ⟨rfl, rfl, rfl, by decide +kernel, rfl, by decide +kernel, by decide +kernel⟩
theorem sc_Global___init__ : FnScope ["self", "kind", "mutable", "value"] ["self", "kind", "mutable", "value"] (defScope s_Global___init__) := ⟨rfl, rfl, rfl, by decide +kernel, rfl, by decide +kernel, by decide +kernel⟩
theorem sc_Store___init__ : FnScope ["self"] ["self"] (defScope s_Store___init__) := ⟨rfl, rfl, rfl, by decide +kernel, rfl, by decide +kernel, by decide +kernel⟩
theorem sc_Module___init__ : FnScope ["self", "signatures", "imports", "functions", "tables", "memories", "tags", "variables", "exports", "start", "table_segments", "memory_segments"] ["self", "signatures", "imports", "functions", "tables", "memories", "tags", "variables", "exports", "start", "table_segments", "memory_segments"] (defScope s_Module___init__) := ⟨rfl, rfl, rfl, by decide +kernel, rfl, by decide +kernel, by decide +kernel⟩
/-- where the own classes stand -/
structure Cs where
  C_HostError : Addr
  C_LimitReached : Addr
  I_LimitReached : Addr
  D_LimitReached : FuncData
  C_Table : Addr
  C_Memory : Addr
  C_Global : Addr
  C_Store : Addr
  C_Module : Addr
  e_Module_signatures : Addr
  e_Module_imports : Addr
  e_Module_functions : Addr
  e_Module_tables : Addr
  e_Module_memories : Addr
  e_Module_tags : Addr
  e_Module_variables : Addr
  e_Module_exports : Addr
  e_Module_table_segments : Addr
  e_Module_memory_segments : Addr
abbrev i_LimitReached : Stmt := inClass (top 2) 0
theorem sci_LimitReached : FnScope ["self", "what"] ["self", "what"] (defScope i_LimitReached) := ⟨rfl, rfl, rfl, by decide +kernel, rfl, by decide +kernel, by decide +kernel⟩
/-! the attributes of an object of Table -/
def fs_Table (x0 x1 : V) : List (Str × V) := [("entries", x0), ("most", x1)]
theorem lk_Table_entries {x0 x1 : V} : (fs_Table x0 x1).lookup ("entries" : Str) = some x0 := lk_hd
theorem pt_Table_entries {x0 x1 v : V} : putF "entries" v (fs_Table x0 x1) = fs_Table v x1 := pt_hd
theorem lk_Table_most {x0 x1 : V} : (fs_Table x0 x1).lookup ("most" : Str) = some x1 := (lk_tl (by decide +kernel)).trans (lk_hd)
theorem pt_Table_most {x0 x1 v : V} : putF "most" v (fs_Table x0 x1) = fs_Table x0 v := pt_tl (by decide +kernel) (pt_hd)
theorem no_Table___init__ {x0 x1 : V} : (fs_Table x0 x1).lookup ("__init__" : Str) = none := (lk_tl (by decide +kernel)).trans ((lk_tl (by decide +kernel)).trans (rfl))
theorem in_Table_0 {x0 x1 : V} : putF "entries" x0 ([] : List (Str × V)) = [(("entries" : Str), x0)] := pt_nl
theorem in_Table_1 {x0 x1 : V} : putF "most" x1 ([(("entries" : Str), x0)] : List (Str × V)) = [(("entries" : Str), x0), (("most" : Str), x1)] := pt_tl (by decide +kernel) (pt_nl)
/-! the attributes of an object of Memory -/
def fs_Memory (x0 x1 x2 : V) : List (Str × V) := [("pages", x0), ("most", x1), ("cells", x2)]
theorem lk_Memory_pages {x0 x1 x2 : V} : (fs_Memory x0 x1 x2).lookup ("pages" : Str) = some x0 := lk_hd
theorem pt_Memory_pages {x0 x1 x2 v : V} : putF "pages" v (fs_Memory x0 x1 x2) = fs_Memory v x1 x2 := pt_hd
theorem lk_Memory_most {x0 x1 x2 : V} : (fs_Memory x0 x1 x2).lookup ("most" : Str) = some x1 := (lk_tl (by decide +kernel)).trans (lk_hd)
theorem pt_Memory_most {x0 x1 x2 v : V} : putF "most" v (fs_Memory x0 x1 x2) = fs_Memory x0 v x2 := pt_tl (by decide +kernel) (pt_hd)
theorem lk_Memory_cells {x0 x1 x2 : V} : (fs_Memory x0 x1 x2).lookup ("cells" : Str) = some x2 := (lk_tl (by decide +kernel)).trans ((lk_tl (by decide +kernel)).trans (lk_hd))
theorem pt_Memory_cells {x0 x1 x2 v : V} : putF "cells" v (fs_Memory x0 x1 x2) = fs_Memory x0 x1 v := pt_tl (by decide +kernel) (pt_tl (by decide +kernel) (pt_hd))
theorem no_Memory___init__ {x0 x1 x2 : V} : (fs_Memory x0 x1 x2).lookup ("__init__" : Str) = none := (lk_tl (by decide +kernel)).trans ((lk_tl (by decide +kernel)).trans ((lk_tl (by decide +kernel)).trans (rfl)))
theorem no_Memory_size {x0 x1 x2 : V} : (fs_Memory x0 x1 x2).lookup ("size" : Str) = none := (lk_tl (by decide +kernel)).trans ((lk_tl (by decide +kernel)).trans ((lk_tl (by decide +kernel)).trans (rfl)))
theorem no_Memory_read {x0 x1 x2 : V} : (fs_Memory x0 x1 x2).lookup ("read" : Str) = none := (lk_tl (by decide +kernel)).trans ((lk_tl (by decide +kernel)).trans ((lk_tl (by decide +kernel)).trans (rfl)))
theorem no_Memory_write {x0 x1 x2 : V} : (fs_Memory x0 x1 x2).lookup ("write" : Str) = none := (lk_tl (by decide +kernel)).trans ((lk_tl (by decide +kernel)).trans ((lk_tl (by decide +kernel)).trans (rfl)))
theorem in_Memory_0 {x0 x1 x2 : V} : putF "pages" x0 ([] : List (Str × V)) = [(("pages" : Str), x0)] := pt_nl
theorem in_Memory_1 {x0 x1 x2 : V} : putF "most" x1 ([(("pages" : Str), x0)] : List (Str × V)) = [(("pages" : Str), x0), (("most" : Str), x1)] := pt_tl (by decide +kernel) (pt_nl)
theorem in_Memory_2 {x0 x1 x2 : V} : putF "cells" x2 ([(("pages" : Str), x0), (("most" : Str), x1)] : List (Str × V)) = [(("pages" : Str), x0), (("most" : Str), x1), (("cells" : Str), x2)] := pt_tl (by decide +kernel) (pt_tl (by decide +kernel) (pt_nl))
/-! the attributes of an object of Global -/
def fs_Global (x0 x1 x2 : V) : List (Str × V) := [("kind", x0), ("mutable", x1), ("value", x2)]
theorem lk_Global_kind {x0 x1 x2 : V} : (fs_Global x0 x1 x2).lookup ("kind" : Str) = some x0 := lk_hd
theorem pt_Global_kind {x0 x1 x2 v : V} : putF "kind" v (fs_Global x0 x1 x2) = fs_Global v x1 x2 := pt_hd
theorem lk_Global_mutable {x0 x1 x2 : V} : (fs_Global x0 x1 x2).lookup ("mutable" : Str) = some x1 := (lk_tl (by decide +kernel)).trans (lk_hd)
theorem pt_Global_mutable {x0 x1 x2 v : V} : putF "mutable" v (fs_Global x0 x1 x2) = fs_Global x0 v x2 := pt_tl (by decide +kernel) (pt_hd)
theorem lk_Global_value {x0 x1 x2 : V} : (fs_Global x0 x1 x2).lookup ("value" : Str) = some x2 := (lk_tl (by decide +kernel)).trans ((lk_tl (by decide +kernel)).trans (lk_hd))
theorem pt_Global_value {x0 x1 x2 v : V} : putF "value" v (fs_Global x0 x1 x2) = fs_Global x0 x1 v := pt_tl (by decide +kernel) (pt_tl (by decide +kernel) (pt_hd))
theorem no_Global___init__ {x0 x1 x2 : V} : (fs_Global x0 x1 x2).lookup ("__init__" : Str) = none := (lk_tl (by decide +kernel)).trans ((lk_tl (by decide +kernel)).trans ((lk_tl (by decide +kernel)).trans (rfl)))
theorem in_Global_0 {x0 x1 x2 : V} : putF "kind" x0 ([] : List (Str × V)) = [(("kind" : Str), x0)] := pt_nl
theorem in_Global_1 {x0 x1 x2 : V} : putF "mutable" x1 ([(("kind" : Str), x0)] : List (Str × V)) = [(("kind" : Str), x0), (("mutable" : Str), x1)] := pt_tl (by decide +kernel) (pt_nl)
theorem in_Global_2 {x0 x1 x2 : V} : putF "value" x2 ([(("kind" : Str), x0), (("mutable" : Str), x1)] : List (Str × V)) = [(("kind" : Str), x0), (("mutable" : Str), x1), (("value" : Str), x2)] := pt_tl (by decide +kernel) (pt_tl (by decide +kernel) (pt_nl))
/-! the attributes of an object of Store -/
def fs_Store (x0 x1 x2 x3 x4 x5 : V) : List (Str × V) := [("functions", x0), ("tables", x1), ("memories", x2), ("variables", x3), ("tags", x4), ("instances", x5)]
theorem lk_Store_functions {x0 x1 x2 x3 x4 x5 : V} : (fs_Store x0 x1 x2 x3 x4 x5).lookup ("functions" : Str) = some x0 := lk_hd
theorem pt_Store_functions {x0 x1 x2 x3 x4 x5 v : V} : putF "functions" v (fs_Store x0 x1 x2 x3 x4 x5) = fs_Store v x1 x2 x3 x4 x5 := pt_hd
theorem lk_Store_tables {x0 x1 x2 x3 x4 x5 : V} : (fs_Store x0 x1 x2 x3 x4 x5).lookup ("tables" : Str) = some x1 := (lk_tl (by decide +kernel)).trans (lk_hd)
theorem pt_Store_tables {x0 x1 x2 x3 x4 x5 v : V} : putF "tables" v (fs_Store x0 x1 x2 x3 x4 x5) = fs_Store x0 v x2 x3 x4 x5 := pt_tl (by decide +kernel) (pt_hd)
theorem lk_Store_memories {x0 x1 x2 x3 x4 x5 : V} : (fs_Store x0 x1 x2 x3 x4 x5).lookup ("memories" : Str) = some x2 := (lk_tl (by decide +kernel)).trans ((lk_tl (by decide +kernel)).trans (lk_hd))
theorem pt_Store_memories {x0 x1 x2 x3 x4 x5 v : V} : putF "memories" v (fs_Store x0 x1 x2 x3 x4 x5) = fs_Store x0 x1 v x3 x4 x5 := pt_tl (by decide +kernel) (pt_tl (by decide +kernel) (pt_hd))
theorem lk_Store_variables {x0 x1 x2 x3 x4 x5 : V} : (fs_Store x0 x1 x2 x3 x4 x5).lookup ("variables" : Str) = some x3 := (lk_tl (by decide +kernel)).trans ((lk_tl (by decide +kernel)).trans ((lk_tl (by decide +kernel)).trans (lk_hd)))
theorem pt_Store_variables {x0 x1 x2 x3 x4 x5 v : V} : putF "variables" v (fs_Store x0 x1 x2 x3 x4 x5) = fs_Store x0 x1 x2 v x4 x5 := pt_tl (by decide +kernel) (pt_tl (by decide +kernel) (pt_tl (by decide +kernel) (pt_hd)))
theorem lk_Store_tags {x0 x1 x2 x3 x4 x5 : V} : (fs_Store x0 x1 x2 x3 x4 x5).lookup ("tags" : Str) = some x4 := (lk_tl (by decide +kernel)).trans ((lk_tl (by decide +kernel)).trans ((lk_tl (by decide +kernel)).trans ((lk_tl (by decide +kernel)).trans (lk_hd))))
theorem pt_Store_tags {x0 x1 x2 x3 x4 x5 v : V} : putF "tags" v (fs_Store x0 x1 x2 x3 x4 x5) = fs_Store x0 x1 x2 x3 v x5 := pt_tl (by decide +kernel) (pt_tl (by decide +kernel) (pt_tl (by decide +kernel) (pt_tl (by decide +kernel) (pt_hd))))
theorem lk_Store_instances {x0 x1 x2 x3 x4 x5 : V} : (fs_Store x0 x1 x2 x3 x4 x5).lookup ("instances" : Str) = some x5 := (lk_tl (by decide +kernel)).trans ((lk_tl (by decide +kernel)).trans ((lk_tl (by decide +kernel)).trans ((lk_tl (by decide +kernel)).trans ((lk_tl (by decide +kernel)).trans (lk_hd)))))
theorem pt_Store_instances {x0 x1 x2 x3 x4 x5 v : V} : putF "instances" v (fs_Store x0 x1 x2 x3 x4 x5) = fs_Store x0 x1 x2 x3 x4 v := pt_tl (by decide +kernel) (pt_tl (by decide +kernel) (pt_tl (by decide +kernel) (pt_tl (by decide +kernel) (pt_tl (by decide +kernel) (pt_hd)))))
theorem no_Store___init__ {x0 x1 x2 x3 x4 x5 : V} : (fs_Store x0 x1 x2 x3 x4 x5).lookup ("__init__" : Str) = none := (lk_tl (by decide +kernel)).trans ((lk_tl (by decide +kernel)).trans ((lk_tl (by decide +kernel)).trans ((lk_tl (by decide +kernel)).trans ((lk_tl (by decide +kernel)).trans ((lk_tl (by decide +kernel)).trans (rfl))))))
theorem in_Store_0 {x0 x1 x2 x3 x4 x5 : V} : putF "functions" x0 ([] : List (Str × V)) = [(("functions" : Str), x0)] := pt_nl
theorem in_Store_1 {x0 x1 x2 x3 x4 x5 : V} : putF "tables" x1 ([(("functions" : Str), x0)] : List (Str × V)) = [(("functions" : Str), x0), (("tables" : Str), x1)] := pt_tl (by decide +kernel) (pt_nl)
theorem in_Store_2 {x0 x1 x2 x3 x4 x5 : V} : putF "memories" x2 ([(("functions" : Str), x0), (("tables" : Str), x1)] : List (Str × V)) = [(("functions" : Str), x0), (("tables" : Str), x1), (("memories" : Str), x2)] := pt_tl (by decide +kernel) (pt_tl (by decide +kernel) (pt_nl))
theorem in_Store_3 {x0 x1 x2 x3 x4 x5 : V} : putF "variables" x3 ([(("functions" : Str), x0), (("tables" : Str), x1), (("memories" : Str), x2)] : List (Str × V)) = [(("functions" : Str), x0), (("tables" : Str), x1), (("memories" : Str), x2), (("variables" : Str), x3)] := pt_tl (by decide +kernel) (pt_tl (by decide +kernel) (pt_tl (by decide +kernel) (pt_nl)))
theorem in_Store_4 {x0 x1 x2 x3 x4 x5 : V} : putF "tags" x4 ([(("functions" : Str), x0), (("tables" : Str), x1), (("memories" : Str), x2), (("variables" : Str), x3)] : List (Str × V)) = [(("functions" : Str), x0), (("tables" : Str), x1), (("memories" : Str), x2), (("variables" : Str), x3), (("tags" : Str), x4)] := pt_tl (by decide +kernel) (pt_tl (by decide +kernel) (pt_tl (by decide +kernel) (pt_tl (by decide +kernel) (pt_nl))))
theorem in_Store_5 {x0 x1 x2 x3 x4 x5 : V} : putF "instances" x5 ([(("functions" : Str), x0), (("tables" : Str), x1), (("memories" : Str), x2), (("variables" : Str), x3), (("tags" : Str), x4)] : List (Str × V)) = [(("functions" : Str), x0), (("tables" : Str), x1), (("memories" : Str), x2), (("variables" : Str), x3), (("tags" : Str), x4), (("instances" : Str), x5)] := pt_tl (by decide +kernel) (pt_tl (by decide +kernel) (pt_tl (by decide +kernel) (pt_tl (by decide +kernel) (pt_tl (by decide +kernel) (pt_nl)))))
/-! the attributes of an object of Module -/
def fs_Module (x0 x1 x2 x3 x4 x5 x6 x7 x8 x9 x10 : V) : List (Str × V) := [("signatures", x0), ("imports", x1), ("functions", x2), ("tables", x3), ("memories", x4), ("tags", x5), ("variables", x6), ("exports", x7), ("start", x8), ("table_segments", x9), ("memory_segments", x10)]
theorem lk_Module_signatures {x0 x1 x2 x3 x4 x5 x6 x7 x8 x9 x10 : V} : (fs_Module x0 x1 x2 x3 x4 x5 x6 x7 x8 x9 x10).lookup ("signatures" : Str) = some x0 := lk_hd
theorem pt_Module_signatures {x0 x1 x2 x3 x4 x5 x6 x7 x8 x9 x10 v : V} : putF "signatures" v (fs_Module x0 x1 x2 x3 x4 x5 x6 x7 x8 x9 x10) = fs_Module v x1 x2 x3 x4 x5 x6 x7 x8 x9 x10 := pt_hd
theorem lk_Module_imports {x0 x1 x2 x3 x4 x5 x6 x7 x8 x9 x10 : V} : (fs_Module x0 x1 x2 x3 x4 x5 x6 x7 x8 x9 x10).lookup ("imports" : Str) = some x1 := (lk_tl (by decide +kernel)).trans (lk_hd)
theorem pt_Module_imports {x0 x1 x2 x3 x4 x5 x6 x7 x8 x9 x10 v : V} : putF "imports" v (fs_Module x0 x1 x2 x3 x4 x5 x6 x7 x8 x9 x10) = fs_Module x0 v x2 x3 x4 x5 x6 x7 x8 x9 x10 := pt_tl (by decide +kernel) (pt_hd)
theorem lk_Module_functions {x0 x1 x2 x3 x4 x5 x6 x7 x8 x9 x10 : V} : (fs_Module x0 x1 x2 x3 x4 x5 x6 x7 x8 x9 x10).lookup ("functions" : Str) = some x2 := (lk_tl (by decide +kernel)).trans ((lk_tl (by decide +kernel)).trans (lk_hd))
theorem pt_Module_functions {x0 x1 x2 x3 x4 x5 x6 x7 x8 x9 x10 v : V} : putF "functions" v (fs_Module x0 x1 x2 x3 x4 x5 x6 x7 x8 x9 x10) = fs_Module x0 x1 v x3 x4 x5 x6 x7 x8 x9 x10 := pt_tl (by decide +kernel) (pt_tl (by decide +kernel) (pt_hd))
theorem lk_Module_tables {x0 x1 x2 x3 x4 x5 x6 x7 x8 x9 x10 : V} : (fs_Module x0 x1 x2 x3 x4 x5 x6 x7 x8 x9 x10).lookup ("tables" : Str) = some x3 := (lk_tl (by decide +kernel)).trans ((lk_tl (by decide +kernel)).trans ((lk_tl (by decide +kernel)).trans (lk_hd)))
theorem pt_Module_tables {x0 x1 x2 x3 x4 x5 x6 x7 x8 x9 x10 v : V} : putF "tables" v (fs_Module x0 x1 x2 x3 x4 x5 x6 x7 x8 x9 x10) = fs_Module x0 x1 x2 v x4 x5 x6 x7 x8 x9 x10 := pt_tl (by decide +kernel) (pt_tl (by decide +kernel) (pt_tl (by decide +kernel) (pt_hd)))
theorem lk_Module_memories {x0 x1 x2 x3 x4 x5 x6 x7 x8 x9 x10 : V} : (fs_Module x0 x1 x2 x3 x4 x5 x6 x7 x8 x9 x10).lookup ("memories" : Str) = some x4 := (lk_tl (by decide +kernel)).trans ((lk_tl (by decide +kernel)).trans ((lk_tl (by decide +kernel)).trans ((lk_tl (by decide +kernel)).trans (lk_hd))))
theorem pt_Module_memories {x0 x1 x2 x3 x4 x5 x6 x7 x8 x9 x10 v : V} : putF "memories" v (fs_Module x0 x1 x2 x3 x4 x5 x6 x7 x8 x9 x10) = fs_Module x0 x1 x2 x3 v x5 x6 x7 x8 x9 x10 := pt_tl (by decide +kernel) (pt_tl (by decide +kernel) (pt_tl (by decide +kernel) (pt_tl (by decide +kernel) (pt_hd))))
theorem lk_Module_tags {x0 x1 x2 x3 x4 x5 x6 x7 x8 x9 x10 : V} : (fs_Module x0 x1 x2 x3 x4 x5 x6 x7 x8 x9 x10).lookup ("tags" : Str) = some x5 := (lk_tl (by decide +kernel)).trans ((lk_tl (by decide +kernel)).trans ((lk_tl (by decide +kernel)).trans ((lk_tl (by decide +kernel)).trans ((lk_tl (by decide +kernel)).trans (lk_hd)))))
theorem pt_Module_tags {x0 x1 x2 x3 x4 x5 x6 x7 x8 x9 x10 v : V} : putF "tags" v (fs_Module x0 x1 x2 x3 x4 x5 x6 x7 x8 x9 x10) = fs_Module x0 x1 x2 x3 x4 v x6 x7 x8 x9 x10 := pt_tl (by decide +kernel) (pt_tl (by decide +kernel) (pt_tl (by decide +kernel) (pt_tl (by decide +kernel) (pt_tl (by decide +kernel) (pt_hd)))))
theorem lk_Module_variables {x0 x1 x2 x3 x4 x5 x6 x7 x8 x9 x10 : V} : (fs_Module x0 x1 x2 x3 x4 x5 x6 x7 x8 x9 x10).lookup ("variables" : Str) = some x6 := (lk_tl (by decide +kernel)).trans ((lk_tl (by decide +kernel)).trans ((lk_tl (by decide +kernel)).trans ((lk_tl (by decide +kernel)).trans ((lk_tl (by decide +kernel)).trans ((lk_tl (by decide +kernel)).trans (lk_hd))))))
theorem pt_Module_variables {x0 x1 x2 x3 x4 x5 x6 x7 x8 x9 x10 v : V} : putF "variables" v (fs_Module x0 x1 x2 x3 x4 x5 x6 x7 x8 x9 x10) = fs_Module x0 x1 x2 x3 x4 x5 v x7 x8 x9 x10 := pt_tl (by decide +kernel) (pt_tl (by decide +kernel) (pt_tl (by decide +kernel) (pt_tl (by decide +kernel) (pt_tl (by decide +kernel) (pt_tl (by decide +kernel) (pt_hd))))))
theorem lk_Module_exports {x0 x1 x2 x3 x4 x5 x6 x7 x8 x9 x10 : V} : (fs_Module x0 x1 x2 x3 x4 x5 x6 x7 x8 x9 x10).lookup ("exports" : Str) = some x7 := (lk_tl (by decide +kernel)).trans ((lk_tl (by decide +kernel)).trans ((lk_tl (by decide +kernel)).trans ((lk_tl (by decide +kernel)).trans ((lk_tl (by decide +kernel)).trans ((lk_tl (by decide +kernel)).trans ((lk_tl (by decide +kernel)).trans (lk_hd)))))))
theorem pt_Module_exports {x0 x1 x2 x3 x4 x5 x6 x7 x8 x9 x10 v : V} : putF "exports" v (fs_Module x0 x1 x2 x3 x4 x5 x6 x7 x8 x9 x10) = fs_Module x0 x1 x2 x3 x4 x5 x6 v x8 x9 x10 := pt_tl (by decide +kernel) (pt_tl (by decide +kernel) (pt_tl (by decide +kernel) (pt_tl (by decide +kernel) (pt_tl (by decide +kernel) (pt_tl (by decide +kernel) (pt_tl (by decide +kernel) (pt_hd)))))))
theorem lk_Module_start {x0 x1 x2 x3 x4 x5 x6 x7 x8 x9 x10 : V} : (fs_Module x0 x1 x2 x3 x4 x5 x6 x7 x8 x9 x10).lookup ("start" : Str) = some x8 := (lk_tl (by decide +kernel)).trans ((lk_tl (by decide +kernel)).trans ((lk_tl (by decide +kernel)).trans ((lk_tl (by decide +kernel)).trans ((lk_tl (by decide +kernel)).trans ((lk_tl (by decide +kernel)).trans ((lk_tl (by decide +kernel)).trans ((lk_tl (by decide +kernel)).trans (lk_hd))))))))
theorem pt_Module_start {x0 x1 x2 x3 x4 x5 x6 x7 x8 x9 x10 v : V} : putF "start" v (fs_Module x0 x1 x2 x3 x4 x5 x6 x7 x8 x9 x10) = fs_Module x0 x1 x2 x3 x4 x5 x6 x7 v x9 x10 := pt_tl (by decide +kernel) (pt_tl (by decide +kernel) (pt_tl (by decide +kernel) (pt_tl (by decide +kernel) (pt_tl (by decide +kernel) (pt_tl (by decide +kernel) (pt_tl (by decide +kernel) (pt_tl (by decide +kernel) (pt_hd))))))))
theorem lk_Module_table_segments {x0 x1 x2 x3 x4 x5 x6 x7 x8 x9 x10 : V} : (fs_Module x0 x1 x2 x3 x4 x5 x6 x7 x8 x9 x10).lookup ("table_segments" : Str) = some x9 := (lk_tl (by decide +kernel)).trans ((lk_tl (by decide +kernel)).trans ((lk_tl (by decide +kernel)).trans ((lk_tl (by decide +kernel)).trans ((lk_tl (by decide +kernel)).trans ((lk_tl (by decide +kernel)).trans ((lk_tl (by decide +kernel)).trans ((lk_tl (by decide +kernel)).trans ((lk_tl (by decide +kernel)).trans (lk_hd)))))))))
theorem pt_Module_table_segments {x0 x1 x2 x3 x4 x5 x6 x7 x8 x9 x10 v : V} : putF "table_segments" v (fs_Module x0 x1 x2 x3 x4 x5 x6 x7 x8 x9 x10) = fs_Module x0 x1 x2 x3 x4 x5 x6 x7 x8 v x10 := pt_tl (by decide +kernel) (pt_tl (by decide +kernel) (pt_tl (by decide +kernel) (pt_tl (by decide +kernel) (pt_tl (by decide +kernel) (pt_tl (by decide +kernel) (pt_tl (by decide +kernel) (pt_tl (by decide +kernel) (pt_tl (by decide +kernel) (pt_hd)))))))))
theorem lk_Module_memory_segments {x0 x1 x2 x3 x4 x5 x6 x7 x8 x9 x10 : V} : (fs_Module x0 x1 x2 x3 x4 x5 x6 x7 x8 x9 x10).lookup ("memory_segments" : Str) = some x10 := (lk_tl (by decide +kernel)).trans ((lk_tl (by decide +kernel)).trans ((lk_tl (by decide +kernel)).trans ((lk_tl (by decide +kernel)).trans ((lk_tl (by decide +kernel)).trans ((lk_tl (by decide +kernel)).trans ((lk_tl (by decide +kernel)).trans ((lk_tl (by decide +kernel)).trans ((lk_tl (by decide +kernel)).trans ((lk_tl (by decide +kernel)).trans (lk_hd))))))))))
theorem pt_Module_memory_segments {x0 x1 x2 x3 x4 x5 x6 x7 x8 x9 x10 v : V} : putF "memory_segments" v (fs_Module x0 x1 x2 x3 x4 x5 x6 x7 x8 x9 x10) = fs_Module x0 x1 x2 x3 x4 x5 x6 x7 x8 x9 v := pt_tl (by decide +kernel) (pt_tl (by decide +kernel) (pt_tl (by decide +kernel) (pt_tl (by decide +kernel) (pt_tl (by decide +kernel) (pt_tl (by decide +kernel) (pt_tl (by decide +kernel) (pt_tl (by decide +kernel) (pt_tl (by decide +kernel) (pt_tl (by decide +kernel) (pt_hd))))))))))
theorem no_Module___init__ {x0 x1 x2 x3 x4 x5 x6 x7 x8 x9 x10 : V} : (fs_Module x0 x1 x2 x3 x4 x5 x6 x7 x8 x9 x10).lookup ("__init__" : Str) = none := (lk_tl (by decide +kernel)).trans ((lk_tl (by decide +kernel)).trans ((lk_tl (by decide +kernel)).trans ((lk_tl (by decide +kernel)).trans ((lk_tl (by decide +kernel)).trans ((lk_tl (by decide +kernel)).trans ((lk_tl (by decide +kernel)).trans ((lk_tl (by decide +kernel)).trans ((lk_tl (by decide +kernel)).trans ((lk_tl (by decide +kernel)).trans ((lk_tl (by decide +kernel)).trans (rfl)))))))))))
theorem in_Module_0 {x0 x1 x2 x3 x4 x5 x6 x7 x8 x9 x10 : V} : putF "signatures" x0 ([] : List (Str × V)) = [(("signatures" : Str), x0)] := pt_nl
theorem in_Module_1 {x0 x1 x2 x3 x4 x5 x6 x7 x8 x9 x10 : V} : putF "imports" x1 ([(("signatures" : Str), x0)] : List (Str × V)) = [(("signatures" : Str), x0), (("imports" : Str), x1)] := pt_tl (by decide +kernel) (pt_nl)
theorem in_Module_2 {x0 x1 x2 x3 x4 x5 x6 x7 x8 x9 x10 : V} : putF "functions" x2 ([(("signatures" : Str), x0), (("imports" : Str), x1)] : List (Str × V)) = [(("signatures" : Str), x0), (("imports" : Str), x1), (("functions" : Str), x2)] := pt_tl (by decide +kernel) (pt_tl (by decide +kernel) (pt_nl))
theorem in_Module_3 {x0 x1 x2 x3 x4 x5 x6 x7 x8 x9 x10 : V} : putF "tables" x3 ([(("signatures" : Str), x0), (("imports" : Str), x1), (("functions" : Str), x2)] : List (Str × V)) = [(("signatures" : Str), x0), (("imports" : Str), x1), (("functions" : Str), x2), (("tables" : Str), x3)] := pt_tl (by decide +kernel) (pt_tl (by decide +kernel) (pt_tl (by decide +kernel) (pt_nl)))
theorem in_Module_4 {x0 x1 x2 x3 x4 x5 x6 x7 x8 x9 x10 : V} : putF "memories" x4 ([(("signatures" : Str), x0), (("imports" : Str), x1), (("functions" : Str), x2), (("tables" : Str), x3)] : List (Str × V)) = [(("signatures" : Str), x0), (("imports" : Str), x1), (("functions" : Str), x2), (("tables" : Str), x3), (("memories" : Str), x4)] := pt_tl (by decide +kernel) (pt_tl (by decide +kernel) (pt_tl (by decide +kernel) (pt_tl (by decide +kernel) (pt_nl))))
theorem in_Module_5 {x0 x1 x2 x3 x4 x5 x6 x7 x8 x9 x10 : V} : putF "tags" x5 ([(("signatures" : Str), x0), (("imports" : Str), x1), (("functions" : Str), x2), (("tables" : Str), x3), (("memories" : Str), x4)] : List (Str × V)) = [(("signatures" : Str), x0), (("imports" : Str), x1), (("functions" : Str), x2), (("tables" : Str), x3), (("memories" : Str), x4), (("tags" : Str), x5)] := pt_tl (by decide +kernel) (pt_tl (by decide +kernel) (pt_tl (by decide +kernel) (pt_tl (by decide +kernel) (pt_tl (by decide +kernel) (pt_nl)))))
theorem in_Module_6 {x0 x1 x2 x3 x4 x5 x6 x7 x8 x9 x10 : V} : putF "variables" x6 ([(("signatures" : Str), x0), (("imports" : Str), x1), (("functions" : Str), x2), (("tables" : Str), x3), (("memories" : Str), x4), (("tags" : Str), x5)] : List (Str × V)) = [(("signatures" : Str), x0), (("imports" : Str), x1), (("functions" : Str), x2), (("tables" : Str), x3), (("memories" : Str), x4), (("tags" : Str), x5), (("variables" : Str), x6)] := pt_tl (by decide +kernel) (pt_tl (by decide +kernel) (pt_tl (by decide +kernel) (pt_tl (by decide +kernel) (pt_tl (by decide +kernel) (pt_tl (by decide +kernel) (pt_nl))))))
theorem in_Module_7 {x0 x1 x2 x3 x4 x5 x6 x7 x8 x9 x10 : V} : putF "exports" x7 ([(("signatures" : Str), x0), (("imports" : Str), x1), (("functions" : Str), x2), (("tables" : Str), x3), (("memories" : Str), x4), (("tags" : Str), x5), (("variables" : Str), x6)] : List (Str × V)) = [(("signatures" : Str), x0), (("imports" : Str), x1), (("functions" : Str), x2), (("tables" : Str), x3), (("memories" : Str), x4), (("tags" : Str), x5), (("variables" : Str), x6), (("exports" : Str), x7)] := pt_tl (by decide +kernel) (pt_tl (by decide +kernel) (pt_tl (by decide +kernel) (pt_tl (by decide +kernel) (pt_tl (by decide +kernel) (pt_tl (by decide +kernel) (pt_tl (by decide +kernel) (pt_nl)))))))
theorem in_Module_8 {x0 x1 x2 x3 x4 x5 x6 x7 x8 x9 x10 : V} : putF "start" x8 ([(("signatures" : Str), x0), (("imports" : Str), x1), (("functions" : Str), x2), (("tables" : Str), x3), (("memories" : Str), x4), (("tags" : Str), x5), (("variables" : Str), x6), (("exports" : Str), x7)] : List (Str × V)) = [(("signatures" : Str), x0), (("imports" : Str), x1), (("functions" : Str), x2), (("tables" : Str), x3), (("memories" : Str), x4), (("tags" : Str), x5), (("variables" : Str), x6), (("exports" : Str), x7), (("start" : Str), x8)] := pt_tl (by decide +kernel) (pt_tl (by decide +kernel) (pt_tl (by decide +kernel) (pt_tl (by decide +kernel) (pt_tl (by decide +kernel) (pt_tl (by decide +kernel) (pt_tl (by decide +kernel) (pt_tl (by decide +kernel) (pt_nl))))))))
theorem in_Module_9 {x0 x1 x2 x3 x4 x5 x6 x7 x8 x9 x10 : V} : putF "table_segments" x9 ([(("signatures" : Str), x0), (("imports" : Str), x1), (("functions" : Str), x2), (("tables" : Str), x3), (("memories" : Str), x4), (("tags" : Str), x5), (("variables" : Str), x6), (("exports" : Str), x7), (("start" : Str), x8)] : List (Str × V)) = [(("signatures" : Str), x0), (("imports" : Str), x1), (("functions" : Str), x2), (("tables" : Str), x3), (("memories" : Str), x4), (("tags" : Str), x5), (("variables" : Str), x6), (("exports" : Str), x7), (("start" : Str), x8), (("table_segments" : Str), x9)] := pt_tl (by decide +kernel) (pt_tl (by decide +kernel) (pt_tl (by decide +kernel) (pt_tl (by decide +kernel) (pt_tl (by decide +kernel) (pt_tl (by decide +kernel) (pt_tl (by decide +kernel) (pt_tl (by decide +kernel) (pt_tl (by decide +kernel) (pt_nl)))))))))
theorem in_Module_10 {x0 x1 x2 x3 x4 x5 x6 x7 x8 x9 x10 : V} : putF "memory_segments" x10 ([(("signatures" : Str), x0), (("imports" : Str), x1), (("functions" : Str), x2), (("tables" : Str), x3), (("memories" : Str), x4), (("tags" : Str), x5), (("variables" : Str), x6), (("exports" : Str), x7), (("start" : Str), x8), (("table_segments" : Str), x9)] : List (Str × V)) = [(("signatures" : Str), x0), (("imports" : Str), x1), (("functions" : Str), x2), (("tables" : Str), x3), (("memories" : Str), x4), (("tags" : Str), x5), (("variables" : Str), x6), (("exports" : Str), x7), (("start" : Str), x8), (("table_segments" : Str), x9), (("memory_segments" : Str), x10)] := pt_tl (by decide +kernel) (pt_tl (by decide +kernel) (pt_tl (by decide +kernel) (pt_tl (by decide +kernel) (pt_tl (by decide +kernel) (pt_tl (by decide +kernel) (pt_tl (by decide +kernel) (pt_tl (by decide +kernel) (pt_tl (by decide +kernel) (pt_tl (by decide +kernel) (pt_nl))))))))))
def kws_Module (cs : Cs) : List (Str × V) := [("signatures", .ref cs.e_Module_signatures), ("imports", .ref cs.e_Module_imports), ("functions", .ref cs.e_Module_functions), ("tables", .ref cs.e_Module_tables), ("memories", .ref cs.e_Module_memories), ("tags", .ref cs.e_Module_tags), ("variables", .ref cs.e_Module_variables), ("exports", .ref cs.e_Module_exports), ("start", .non), ("table_segments", .ref cs.e_Module_table_segments), ("memory_segments", .ref cs.e_Module_memory_segments)]
def ms_Module (cs : Cs) : List (Str × V) := [("imports", .ref cs.e_Module_imports), ("functions", .ref cs.e_Module_functions), ("tables", .ref cs.e_Module_tables), ("memories", .ref cs.e_Module_memories), ("tags", .ref cs.e_Module_tags), ("variables", .ref cs.e_Module_variables), ("exports", .ref cs.e_Module_exports), ("start", .non), ("table_segments", .ref cs.e_Module_table_segments), ("memory_segments", .ref cs.e_Module_memory_segments)]
theorem sub_Module (cs : Cs) : ∀ q ∈ ms_Module cs, q ∈ kws_Module cs := fun q hq => by
  unfold ms_Module at hq
  unfold kws_Module
  simp only [List.mem_cons, List.not_mem_nil, or_false] at hq ⊢
  rcases hq with rfl | rfl | rfl | rfl | rfl | rfl | rfl | rfl | rfl | rfl
  all_goals simp
theorem chain_Module {cs : Cs} (D : Addr) (doc pm : Value) (an : Option Addr) (cdv ct : Value) (us mv ws : List Value) (h1 : us.length = 1) (h2 : mv.length = (ms_Module cs).length) (h3 : ws.length = (["signatures"] : List Str).length) :
    KwChain D (((ms_Module cs).map (·.1)).zip mv) (bindArgs (PySem.W.fnOf "__init__" "Module.__init__" (defArgs s_Module___init__) (defBody s_Module___init__) (defScope s_Module___init__) .none (.ref D) doc pm an cdv ct) ⟨us, (["signatures"] : List Str).zip ws⟩) ((["self", "signatures", "imports", "functions", "tables", "memories", "tags", "variables", "exports", "start", "table_segments", "memory_segments"] : List Str).zip (us ++ (ws ++ mv))) := by
  match us, mv, ws, h1, h2, h3 with
  | [u0], [m0, m1, m2, m3, m4, m5, m6, m7, m8, m9], [w0], _, _, _ => exact ⟨_, _, _, _, _, _, rfl, rfl, ⟨_, _, _, _, _, _, rfl, rfl, ⟨_, _, _, _, _, _, rfl, rfl, ⟨_, _, _, _, _, _, rfl, rfl, ⟨_, _, _, _, _, _, rfl, rfl, ⟨_, _, _, _, _, _, rfl, rfl, ⟨_, _, _, _, _, _, rfl, rfl, ⟨_, _, _, _, _, _, rfl, rfl, ⟨_, _, _, _, _, _, rfl, rfl, ⟨_, _, _, _, _, _, rfl, rfl, rfl⟩⟩⟩⟩⟩⟩⟩⟩⟩⟩
/-- what the top leaves: built-in names that nothing binds, own classes -/
structure Tp (w : World) (K : PySem.W.Frag) (mg : Str → Option Value) (cs : Cs) : Prop where
  m_bool : mg "bool" = none
  m_enumerate : mg "enumerate" = none
  m_int : mg "int" = none
  m_isinstance : mg "isinstance" = none
  m_len : mg "len" = none
  m_max : mg "max" = none
  m_range : mg "range" = none
  m_tuple : mg "tuple" = none
  g_HostError : mg "HostError" = some (.ref cs.C_HostError)
  g_LimitReached : mg "LimitReached" = some (.ref cs.C_LimitReached)
  e_LimitReached : ExK K mg "LimitReached" cs.C_LimitReached
  iC_LimitReached : PySem.W.findIn K (.ref cs.C_LimitReached) "__init__" = some (some (.ref cs.I_LimitReached))
  tI_LimitReached : PySem.W.typeIn K (.ref cs.I_LimitReached) = some (.type "function")
  F_LimitReached : L2.Fun K "__init__" "LimitReached.__init__" i_LimitReached cs.I_LimitReached cs.D_LimitReached
  b_LimitReached : Binds K cs.D_LimitReached ["self", "what"] []
  no_LimitReached_what : PySem.W.findIn K (.ref cs.C_LimitReached) "what" = some none
  kit_LimitReached_HostError : PySem.W.kitOne K (.ref cs.C_LimitReached) (.ref cs.C_HostError) = some true
  exm_LimitReached_HostError : PySem.W.exmOne K (.ref cs.C_LimitReached) (.ref cs.C_HostError) = some true
  kit_LimitReached_LimitReached : PySem.W.kitOne K (.ref cs.C_LimitReached) (.ref cs.C_LimitReached) = some true
  exm_LimitReached_LimitReached : PySem.W.exmOne K (.ref cs.C_LimitReached) (.ref cs.C_LimitReached) = some true
  kit_LimitReached_VE : PySem.W.kitOne K (.ref cs.C_LimitReached) (.type "ValueError") = some true
  i_MOST_KINDS : ∃ t, mg "MOST_KINDS" = some (.int 16 t)
  i_MOST_HOSTS : ∃ t, mg "MOST_HOSTS" = some (.int 20 t)
  g_Table : mg "Table" = some (.ref cs.C_Table)
  cl_Table : Cls K cs.C_Table
  n_Table_entries : NoAttr K cs.C_Table "entries"
  n_Table_most : NoAttr K cs.C_Table "most"
  g_Memory : mg "Memory" = some (.ref cs.C_Memory)
  cl_Memory : Cls K cs.C_Memory
  n_Memory_pages : NoAttr K cs.C_Memory "pages"
  n_Memory_most : NoAttr K cs.C_Memory "most"
  n_Memory_cells : NoAttr K cs.C_Memory "cells"
  g_Global : mg "Global" = some (.ref cs.C_Global)
  cl_Global : Cls K cs.C_Global
  n_Global_kind : NoAttr K cs.C_Global "kind"
  n_Global_mutable : NoAttr K cs.C_Global "mutable"
  n_Global_value : NoAttr K cs.C_Global "value"
  g_Store : mg "Store" = some (.ref cs.C_Store)
  cl_Store : Cls K cs.C_Store
  n_Store_functions : NoAttr K cs.C_Store "functions"
  n_Store_tables : NoAttr K cs.C_Store "tables"
  n_Store_memories : NoAttr K cs.C_Store "memories"
  n_Store_variables : NoAttr K cs.C_Store "variables"
  n_Store_tags : NoAttr K cs.C_Store "tags"
  n_Store_instances : NoAttr K cs.C_Store "instances"
  g_Module : mg "Module" = some (.ref cs.C_Module)
  cl_Module : Cls K cs.C_Module
  n_Module_signatures : NoAttr K cs.C_Module "signatures"
  n_Module_imports : NoAttr K cs.C_Module "imports"
  n_Module_functions : NoAttr K cs.C_Module "functions"
  n_Module_tables : NoAttr K cs.C_Module "tables"
  n_Module_memories : NoAttr K cs.C_Module "memories"
  n_Module_tags : NoAttr K cs.C_Module "tags"
  n_Module_variables : NoAttr K cs.C_Module "variables"
  n_Module_exports : NoAttr K cs.C_Module "exports"
  n_Module_start : NoAttr K cs.C_Module "start"
  n_Module_table_segments : NoAttr K cs.C_Module "table_segments"
  n_Module_memory_segments : NoAttr K cs.C_Module "memory_segments"
  q_Module_signatures : EmpT K cs.e_Module_signatures
  q_Module_imports : EmpT K cs.e_Module_imports
  q_Module_functions : EmpT K cs.e_Module_functions
  q_Module_tables : EmpT K cs.e_Module_tables
  q_Module_memories : EmpT K cs.e_Module_memories
  q_Module_tags : EmpT K cs.e_Module_tags
  q_Module_variables : EmpT K cs.e_Module_variables
  q_Module_exports : EmpT K cs.e_Module_exports
  q_Module_table_segments : EmpT K cs.e_Module_table_segments
  q_Module_memory_segments : EmpT K cs.e_Module_memory_segments
theorem in_LimitReached {P : Program} {w : World} {K : PySem.W.Frag} {mg : Str → Option Value} {base : Heap} {cs : Cs} (T : Tp w K mg cs) : FnOk P w K mg base CX0 1 cs.I_LimitReached cs.D_LimitReached ["self", "what"] (spI1 K cs.C_LimitReached "what") :=
  init1 T.F_LimitReached sci_LimitReached T.e_LimitReached.T T.no_LimitReached_what rfl (.inl rfl) (.inl rfl) (by decide) (by decide)
/-! ### t[::-1] of a tuple; a loop over the turned copy of a list or a tuple -/
theorem rv_adj (n : Nat) : Builtin.Slice.sliceAdjust none none (-1) (n : Int) = ((n : Int) - 1, -1) := by
  unfold Builtin.Slice.sliceAdjust
  rfl
theorem rv_places (n : Nat) : Builtin.Slice.slicePlaces ((n : Int) - 1) (-1) (-1) = n := by
  unfold Builtin.Slice.slicePlaces
  rw [if_neg (by omega)]
  by_cases h : (n : Int) - 1 > -1
  · rw [if_pos h, show (-(-1) : Int) = 1 from rfl, Int.ediv_one]; omega
  · rw [if_neg h]; show 0 = n; omega
theorem fm_congr {α β : Type} {f g : α → Option β} : ∀ {l : List α}, (∀ m ∈ l, f m = g m) → l.filterMap f = l.filterMap g
  | [], _ => rfl
  | a :: r, h => by
    rw [List.filterMap_cons, List.filterMap_cons, h a (List.mem_cons_self ..), fm_congr fun m hm => h m (List.mem_cons_of_mem _ hm)]
theorem rv_pick (xs : Array Value) : ((List.range xs.size).filterMap fun (m : Nat) => xs[((xs.size : Int) - 1 + (m : Int) * (-1)).toNat]?).toArray = xs.toList.reverse.toArray := by
  congr 1
  have e : ∀ m ∈ List.range xs.size, (fun (m : Nat) => xs[((xs.size : Int) - 1 + (m : Int) * (-1)).toNat]?) m = (fun (m : Nat) => xs[xs.size - 1 - m]?) m := by
    intro m hm
    have h := List.mem_range.mp hm
    have : ((xs.size : Int) - 1 + (m : Int) * (-1)).toNat = xs.size - 1 - m := by omega
    show xs[_]? = xs[_]?
    rw [this]
  rw [fm_congr e, ← PySem.W.krv_all, ← List.filterMap_reverse, ← PySem.W.krv_range, List.filterMap_map]
  rfl
section
variable {P : Program} {w : World} {A : Around} {E : Value → Shared → Prop} {s : Shared}
theorem rv_applied {sl : Addr} {u : Tok} {n : Nat} {Q : Int × Int × Nat → Shared → Prop} (hs : s.heap.IsSliceOf sl .none .none (.int (-1) u)) (h : Q ((n : Int) - 1, -1, n) s) :
    wpAny (model P w) A (Builtin.Slice.sliceApplied (.ref sl) (pure (n : Int))) Q E s := by
  obtain ⟨o, ho, hc, hd⟩ := hs
  unfold Builtin.Slice.sliceApplied Builtin.Slice.sliceFields
  refine wpAny_bind (wpAny_bind (wpAny_field ho hd (x := Value.none) rfl (wpAny_bind (wpAny_field ho hd (x := Value.none) rfl (wpAny_bind (wpAny_field ho hd (x := .int (-1) u) rfl (wpAny_pure ?_)))))))
  refine wpAny_bind (HT.slicePart_ (.int (-1) u) ?_)
  show wpAny _ _ (if ((-1 : Int) == 0) = true then _ else _) _ _ s
  rw [if_neg (by decide)]
  refine wpAny_bind (HT.slicePart_ .none (wpAny_bind (HT.slicePart_ .none (wpAny_bind (wpAny_pure ?_)))))
  show wpAny _ _ (match Builtin.Slice.sliceAdjust none none (-1) (n : Int) with | (lo, hi) => pure (lo, (-1 : Int), Builtin.Slice.slicePlaces lo hi (-1))) _ _ s
  rw [rv_adj]
  show wpAny _ _ (pure ((n : Int) - 1, (-1 : Int), Builtin.Slice.slicePlaces ((n : Int) - 1) (-1) (-1))) _ _ s
  rw [rv_places]
  exact wpAny_pure h
theorem rv_getItem {t sl : Addr} {xs : Array Value} {u : Tok} {Q : Value → Shared → Prop} (ht : IsTup s.heap t xs) (hs : s.heap.IsSliceOf sl .none .none (.int (-1) u))
    (h : Q (.ref s.heap.objs.size) { s with heap := s.heap.push { cls := .type "tuple", data := .seq xs.toList.reverse.toArray } }) (hz : xs.size ≤ sizeLine) :
    wpAny (model P w) A (getItem (.ref t) (.ref sl)) Q E s := by
  have hk : sizeOk (.seq xs.toList.reverse.toArray) := by
    show xs.toList.reverse.toArray.size ≤ sizeLine
    rw [List.size_toArray, List.length_reverse, Array.length_toList]
    exact hz
  have hT : s.TypeIs (.ref sl) "slice" := by obtain ⟨o, ho, hc, _⟩ := hs; exact ⟨o, ho, hc⟩
  unfold getItem
  try with_reducible refine wpAny_holding ?_
  try refine wpAny_bind (wpAny_pure ?_)
  refine wpAny_bind (wpAny_sequenceKey ht.typeIs (by decide) ?_)
  refine wpAny_bind (wpAny_callSpecial?_slot (name := Str.ofString "__getitem__") ht.typeIs PyProof.Rows.slot_tuple_getitem
    (wpAny_call_entry PyProof.Rows.slot_tuple_getitem ht.typeIs entry_tuple_getitem ?_ (args_tuple_getitem _ _)))
  show wpAny _ _ (Builtin.Tuple.tupleItemsOf (.ref t) >>= _) _ _ s
  refine wpAny_bind (tupleItemsOf_ ht ?_)
  refine wpAny_bind (wpAny_typeOf hT ?_)
  rw [if_pos (by decide)]
  refine wpAny_bind (rv_applied hs ?_)
  have hn : ¬ (((xs.size : Int) - 1 == 0 && (-1 : Int) == 1 && xs.size == xs.size) = true) := by
    rw [show ((-1 : Int) == 1) = false from rfl, Bool.and_false, Bool.false_and]; decide
  show wpAny _ _ (if ((xs.size : Int) - 1 == 0 && (-1 : Int) == 1 && xs.size == xs.size) = true then _ else _) _ _ s
  rw [if_neg hn, rv_pick]
  first
    | exact wpAny_bind (m := Builtin.Tuple.tupleExact _) (wpAny_newObj_type (wpAny_pure ⟨_, rfl, wpAny_pure h⟩) hk)
    | exact wpAny_bind (m := Builtin.Tuple.tupleExact _) (wpAny_newObj_type (wpAny_bind (wpAny_pure (wpAny_pure ⟨_, rfl, wpAny_pure h⟩))) hk)
    | exact wpAny_bind (wpAny_bind (m := Builtin.Tuple.tupleExact _) (wpAny_newObj_type (wpAny_pure (wpAny_pure ⟨_, rfl, wpAny_pure h⟩)) hk))
    | exact wpAny_bind (wpAny_bind (m := Builtin.Tuple.tupleExact _) (wpAny_newObj_type (wpAny_pure ⟨_, rfl, wpAny_pure h⟩) hk))
end
section
variable {X : Cx}
def tRevT (K : PySem.W.Frag) (te : TE) : TE := fun σ H Q => te σ H fun x H1 => ∃ a xs, x = .ref a ∧ SqT K H1 a xs ∧ ∀ p, H1 p = none → Q (.ref p) (upd H1 p (.tup xs.reverse))
theorem pe_revT {e : Expr} {te : TE} {k : Nat} {p1 p2 p3 pos : Pos} (he : PE X e te) : PE X (.Subscript e (.Slice none none (some (.UnaryOp .USub (.Constant (.int 1) k p1) p2)) p3) pos) (tRevT X.K te) := by
  refine ⟨fun pins s σ H Q I h => Subscript_ (thn (he.run pins s σ H _ I h) fun v s1 ⟨x, H1, I1, r1, q1⟩ => ?_)⟩
  obtain ⟨a, xs, rfl, hx, q⟩ := q1
  cases r1
  have hm : PO X (some (.UnaryOp .USub (.Constant (.int 1) k p1) p2)) (tPart (tUn (rU fun i => .int (-i)) (tC (.int 1)))) := po_some (pe_un un_neg pe_int)
  refine wpAny_Slice (thn (po_none.run pins s1 σ H1 (fun o H2 => o = none ∧ H2 = H1) I1 ⟨rfl, rfl⟩) ?_)
  rintro vl s2 ⟨_, _, I2, pl, rfl, rfl⟩
  refine thn (po_none.run pins s2 σ _ (fun o H3 => o = none ∧ H3 = _) I2 ⟨rfl, rfl⟩) ?_
  rintro vu s3 ⟨_, _, I3, pu, rfl, rfl⟩
  refine thn (hm.run pins s3 σ _ (fun o H4 => o = some (-1) ∧ H4 = _) I3 ⟨1, rfl, -1, rfl, rfl, rfl⟩) ?_
  rintro vs s4 ⟨_, H4, I4, ps, rfl, rfl⟩
  cases pl
  cases pu
  cases ps with
  | int _ u =>
    have I5 : Inv X pins σ H4 { s4 with heap := s4.heap.push { cls := .type "slice", data := .fields #[.none, .none, .int (-1) u] } } := I4.kept (t' := s4.toks) fun b ob z => Heap.get?_push_of_some _ z
    obtain ⟨its, r, ht, hz⟩ := I5.tuple hx
    show wpAny (model X.prog X.w) X.A (subscriptTail e (.Slice none none (some (.UnaryOp .USub (.Constant (.int 1) k p1) p2)) p3) (.ref a) (.ref s4.heap.objs.size)) (EP X pins σ Q) X.xe { s4 with heap := s4.heap.push { cls := .type "slice", data := .fields #[.none, .none, .int (-1) u] } }
    refine tail_any (ops := [.ref a, .ref s4.heap.objs.size]) ht.typeIs (PyProof.Rows.slot_tuple_getitem.lookup) ?_ (by with_unfolding_all rfl)
    refine rv_getItem ht (Heap.IsSliceOf.new _ .none .none (.int (-1) u)) ?_ (by rw [List.size_toArray]; exact r.length ▸ hz)
    exact ⟨.ref _, _, I5.laid (t' := s4.toks) (o := .tup xs.reverse) (fun b ob z => Heap.get?_push_of_some _ z) (Nat.le_refl _) ⟨by rw [List.length_reverse]; exact hz, _, r.reverse, IsTup.new _ _⟩, rfl, q _ (I5.hok.fresh (Nat.le_refl _))⟩
theorem pi_or {tg e : Expr} {u t : TI} (h1 : PI X tg e u) (h2 : PI X tg e t) : PI X tg e (fun σ H R => u σ H R ∨ t σ H R) :=
  ⟨fun pins s σ H R I h => h.elim (h1.run pins s σ H R I) (h2.run pins s σ H R I)⟩
end
theorem for_tupD {K : PySem.W.Frag} {a : Addr} {xs : List V} {g : TG} {tb : TS} {nx : L2.St → Hp → Prop} {rt : VK} {σ : L2.St} {H : Hp} (Pv : Nat → L2.St → Hp → Prop) (h0 : Pv 0 σ H) (hl : ∀ i σ H, i ≤ xs.length → Pv i σ H → SqT K H a xs)
    (hs : ∀ i x σ H, xs[i]? = some x → Pv i σ H → g x σ H fun σ2 H2 => tb { nx := Pv (i + 1), rt := rt, bk := nx, ct := Pv (i + 1) } σ2 H2) (hd : ∀ σ H, Pv xs.length σ H → nx σ H) :
    ∃ W : Nat → Nat → L2.St → Hp → Prop, (∃ m, W 0 m σ H) ∧ ∀ i m σ H, W i m σ H → ((Itt K a).stop i H ∧ nx σ H) ∨ ((Itt K a).go i H ∧ ∃ N : L2.St → Hp → Prop, (∀ σ' H', N σ' H' → ∃ m', m' < m ∧ W (i + 1) m' σ' H') ∧
      ∀ x H', (Itt K a).yld i H x H' → g x σ H' fun σ2 H2 => tb { nx := N, rt := rt, bk := nx, ct := N } σ2 H2) := for_tup (D := { nx := nx, rt := rt }) Pv h0 hl hs hd

/-! ### lists of ints that are the same -/
theorem dp_all {K : PySem.W.Frag} {H : Hp} : ∀ ns : List Int, DpAll K H (ns.map V.int) (ns.map PyData.int)
  | [] => .nil
  | _ :: r => .cons (.int _) (dp_all r)
theorem canlay_ints : ∀ ns : List Int, PyData.canLayAll0 (ns.map PyData.int) = true
  | [] => rfl
  | _ :: r => by
    show PyData.canLayAll0 (PyData.int _ :: r.map PyData.int) = true
    simp only [PyData.canLayAll0, PyData.canLay0, canlay_ints r, Bool.and_self]
theorem depth_ints : ∀ ns : List Int, PyData.depthAll (ns.map PyData.int) ≤ 63
  | [] => by simp [PyData.depthAll]
  | _ :: r => by
    have h := depth_ints r
    simp [PyData.depthAll, PyData.depth] at h ⊢
    exact h
theorem shaped_ints (ns : List Int) : SeqAt.shaped (.list (ns.map PyData.int)) = true := by
  unfold SeqAt.shaped
  rw [Bool.and_eq_true]
  refine ⟨?_, decide_eq_true ?_⟩
  · simp only [PyData.canLay0, canlay_ints]
  · have h := depth_ints ns
    simp only [PyData.depth] at h ⊢
    omega
theorem eqD_same {K : PySem.W.Frag} {H : Hp} {x y : V} {d : PyData} {Q : VK} (h1 : Dp K H x d) (h2 : Dp K H y d) (s : SeqAt.shaped d = true) (q : Q (.bl true) H) : rEqD K x y H Q :=
  ⟨d, d, h1, h2, s, s, by rw [SeqAt.eqv_refl d (SeqAt.canLay_of_shaped s)]; exact q⟩
theorem neD_same {K : PySem.W.Frag} {H : Hp} {x y : V} {d : PyData} {Q : VK} (h1 : Dp K H x d) (h2 : Dp K H y d) (s : SeqAt.shaped d = true) (q : Q (.bl false) H) : rNeD K x y H Q :=
  ⟨d, d, h1, h2, s, s, by rw [SeqAt.eqv_refl d (SeqAt.canLay_of_shaped s)]; exact q⟩
theorem dp_ints {K : PySem.W.Frag} {H : Hp} {a : Addr} {ns : List Int} (h : SqL K H a (ns.map V.int)) : Dp K H (.ref a) (.list (ns.map PyData.int)) := .lst h (dp_all ns)
theorem eqv_ints (ns : List Int) : PyData.eqv (.list (ns.map PyData.int)) (.list (ns.map PyData.int)) = true := SeqAt.eqv_refl _ (SeqAt.canLay_of_shaped (shaped_ints ns))

/-! ### ifs and tests whose answer is known -/
theorem ifNe {x y : Int} {A B : Prop} (e : x = y) (h : B) : if (!decide (V.int x = V.int y)) = true then A else B := by
  subst e
  rw [decide_eq_true rfl]
  exact h
theorem ifNeN {x y : Int} {A B : Prop} (e : ¬ x = y) (h : A) : if (!decide (V.int x = V.int y)) = true then A else B := by
  rw [decide_eq_false (fun z => e (V.int.inj z))]
  exact h
theorem eqT {x y : Int} (e : x = y) : decide (V.int x = V.int y) = true := decide_eq_true (congrArg V.int e)
theorem qT {x y : Int} {Q : VK} {H : Hp} (e : x = y) (h : Q (.bl true) H) : Q (.bl (decide (V.int x = V.int y))) H := by rw [eqT e]; exact h
theorem orV {t u : TE} {σ : L2.St} {H : Hp} {Q : VK} (b1 b2 : Bool) (h1 : ∀ Q, (∀ H', Same H H' → Q (.bl b1) H') → t σ H Q) (h2 : ∀ H' Q, Q (.bl b2) H' → u σ H' Q) (q : ∀ H', Same H H' → Q (.bl (b1 || b2)) H') : tOrV t u σ H Q := by
  refine h1 _ fun H' s => ⟨b1, rfl, ?_⟩
  cases b1 with
  | true => rw [if_pos rfl]; exact q _ s
  | false => rw [if_neg (by decide)]; exact h2 _ _ (q _ s)
theorem andV {t u : TE} {σ : L2.St} {H : Hp} {Q : VK} (b1 b2 : Bool) (h1 : ∀ Q, Q (.bl b1) H → t σ H Q) (h2 : ∀ Q, Q (.bl b2) H → u σ H Q) (q : Q (.bl (b1 && b2)) H) : tAndV t u σ H Q := by
  refine h1 _ ⟨b1, rfl, ?_⟩
  cases b1 with
  | true => rw [if_pos rfl]; exact h2 _ q
  | false => rw [if_neg (by decide)]; exact q
theorem orF {t u : TT} {σ : L2.St} {H : Hp} {Q : Bool → Hp → Prop} (h1 : ∀ Q, (∀ H', Same H H' → Q false H') → t σ H Q) (h2 : ∀ H', Same H H' → ∀ Q, (∀ H'', Same H' H'' → Q false H'') → u σ H' Q) (q : ∀ H', Same H H' → Q false H') : tOr t u σ H Q := by
  refine h1 _ fun H' s => ?_
  rw [if_neg (by decide)]
  exact h2 _ s _ fun H'' s' => q _ (s.trans s')
theorem neF {x y : Int} {Q : Bool → Hp → Prop} {H : Hp} (e : x = y) (h : Q false H) : Q (!decide (V.int x = V.int y)) H := by rw [eqT e]; exact h
theorem ifEq {x y : Int} {A B : Prop} (e : x = y) (h : A) : if decide (V.int x = V.int y) = true then A else B := by rw [eqT e]; exact h
theorem ifEqN {x y : Int} {A B : Prop} (e : ¬ x = y) (h : B) : if decide (V.int x = V.int y) = true then A else B := by
  rw [decide_eq_false (fun z => e (V.int.inj z))]; exact h
theorem ifS {x y : Str} {A B : Prop} (e : x = y) (h : A) : if decide (V.str x = V.str y) = true then A else B := by rw [if_pos (decide_eq_true (congrArg V.str e))]; exact h
theorem ifSN {x y : Str} {A B : Prop} (e : ¬ x = y) (h : B) : if decide (V.str x = V.str y) = true then A else B := by
  rw [if_neg (fun z => e (V.str.inj (of_decide_eq_true z)))]; exact h
theorem ifNeSN {x y : Str} {A B : Prop} (e : ¬ x = y) (h : A) : if (!decide (V.str x = V.str y)) = true then A else B := by
  rw [decide_eq_false (fun z => e (V.str.inj z))]; exact h
theorem ifNeS {x y : Str} {A B : Prop} (e : x = y) (h : B) : if (!decide (V.str x = V.str y)) = true then A else B := by
  subst e
  rw [decide_eq_true rfl]
  exact h
theorem qTS {x y : Str} {Q : VK} {H : Hp} (e : x = y) (h : Q (.bl true) H) : Q (.bl (decide (V.str x = V.str y))) H := by rw [decide_eq_true (congrArg V.str e)]; exact h
theorem call_isiS {X : Cx} {a : Addr} {ps : List (Addr × Obj)} : CallR (X.suite a ps) (.builtin "isinstance") (rIsi X.K) := call_isi
theorem for_tupE {K : PySem.W.Frag} {a : Addr} {xs : List V} {g : TG} {tb : TS} {nx : L2.St → Hp → Prop} {rt : VK} {σ : L2.St} {H : Hp} (Pv : Nat → L2.St → Hp → Prop) (h0 : Pv 0 σ H) (hl : ∀ i σ H, i ≤ xs.length → Pv i σ H → SqT K H a xs)
    (hs : ∀ i x σ H, xs[i]? = some x → Pv i σ H → g x σ H fun σ2 H2 => tb { nx := Pv (i + 1), rt := rt, bk := nx, ct := Pv (i + 1) } σ2 H2) (hd : ∀ σ H, Pv xs.length σ H → nx σ H) :
    ∃ W : Nat → Nat → L2.St → Hp → Prop, (∃ m, W 0 m σ H) ∧ ∀ i m σ H, W i m σ H → ((Itt K a).stop i H ∧ nx σ H) ∨ ((Itt K a).go i H ∧ ∃ N : L2.St → Hp → Prop, (∀ σ' H', N σ' H' → ∃ m', m' < m ∧ W (i + 1) m' σ' H') ∧
      ∀ x H', (Itt K a).yld i H x H' → g x σ H' fun σ2 H2 => tb { nx := N, rt := rt, bk := nx, ct := N } σ2 H2) := for_tup (D := { nx := nx, rt := rt }) Pv h0 hl hs hd
theorem isi_bool {K : PySem.W.Frag} {H : Hp} {b : Bool} {Q : VK} (q : Q (.bl true) H) : rIsi K [.bl b, .ty "bool"] H Q := ⟨.bl b, .ty "bool", _, _, true, rfl, .ty _, .base (.bl _), kit_ty (by decide +kernel), q⟩
theorem ne_of_nd {x y : Int} (h : (!decide (V.int x = V.int y)) = true) : ¬ x = y := fun e => by
  rw [decide_eq_true (congrArg V.int e)] at h; cases h
theorem eq_of_nd {x y : Int} (h : ¬ (!decide (V.int x = V.int y)) = true) : x = y := by
  by_cases e : x = y
  · exact e
  · exact absurd (by rw [decide_eq_false (fun z => e (V.int.inj z))]; rfl) h
theorem eq_of_d {x y : Int} (h : decide (V.int x = V.int y) = true) : x = y := V.int.inj (of_decide_eq_true h)
theorem ne_of_d {x y : Int} (h : ¬ decide (V.int x = V.int y) = true) : ¬ x = y := fun e => h (decide_eq_true (congrArg V.int e))
theorem sign_of (d : Nat) : -1 ≤ ([1, -1] : List Int).getD d 0 ∧ ([1, -1] : List Int).getD d 0 ≤ 1 := by
  match d with
  | 0 => decide
  | 1 => decide
  | _ + 2 => exact (by decide : (-1 : Int) ≤ 0 ∧ (0 : Int) ≤ 1)
section
variable {X : Cx} {s : Shared} {H : Hp} {sc : Scope} {en : Env} {fp : List Addr}
theorem ix_listB : IxR (X.blk s H sc en fp) (L2.rIxL X.K) := ix_list
theorem ix_tupB : IxR (X.blk s H sc en fp) (L2.rIxT X.K) := ix_tup
theorem call_isiB : CallR (X.blk s H sc en fp) (.builtin "isinstance") (rIsi X.K) := call_isi
end
theorem andIf {t : TE} {σ : L2.St} {H : Hp} {Q : VK} {b1 b2 : Bool} (h : ∀ Q', Q' (.bl b2) H → t σ H Q') (q : Q (.bl (b1 && b2)) H) : if b1 = true then t σ H Q else Q (.bl false) H := by
  cases b1 with
  | true => exact h _ q
  | false => exact q
theorem op_eqDS {X : Cx} {a : Addr} {ps : List (Addr × Obj)} (hu : X.A.units + 64 < cLine) : OpR (X.suite a ps) (compareOp .Eq) (rEqD X.K) := op_eqD (X := X.suite a ps) hu
theorem isi_of {K : PySem.W.Frag} {H : Hp} {x : V} {n : String} {t : Value} {b : Bool} {Q : VK} (h : TyX K H x t) (k : PySem.W.kitOne K t (.type n) = some b) (q : Q (.bl b) H) : rIsi K [x, .ty n] H Q := ⟨x, .ty n, t, _, b, rfl, .ty _, h, k, q⟩

/-! ### lists of texts, heaps that grow -/
theorem newE {H H' : Hp} {p : Addr} {xs : List V} {zs : List Str} (h : H p = none) (e : upd H p (.lst xs) = H') (hx : xs = zs.map V.str) : Same H H' ∧ H' p = some (.lst (zs.map V.str)) := by
  subst e hx
  exact ⟨Same.new h, upd_same⟩
theorem at_strs {zs : List Str} {k : Nat} (h : k < zs.length) : ∃ z ∈ zs, atI (zs.map V.str) (k : Int) = some (.str z) :=
  ⟨zs[k], List.getElem_mem h, atI_nat (by rw [List.getElem?_map, List.getElem?_eq_getElem h]; rfl)⟩
theorem none_of {H H' : Hp} {p : Addr} (s : Same H H') (h : H' p = none) : H p = none := by
  cases e : H p with
  | none => rfl
  | some o => rw [s _ _ e] at h; cases h
theorem catE {H : Hp} {l b : Addr} {zs ys : List Str} {Q : VK} (hl : H l = some (.lst (zs.map V.str))) (hb : H b = some (.lst (ys.map V.str))) (hn : zs.length + ys.length ≤ 1000) (q : ∀ p H', Same H H' → H p = none → H' p = some (.lst ((zs ++ ys).map V.str)) → Q (.ref p) H') : rCat (.ref l) (.ref b) H Q :=
  ⟨l, b, _, _, rfl, rfl, hl, hb, by rw [List.length_map, List.length_map]; exact small64 (by omega), fun p hp => q p _ (Same.new hp) hp (by rw [upd_same, List.map_append])⟩
def LstS (H : Hp) (Q : VK) (zs : List Str) : Prop := ∀ p H', Same H H' → H p = none → H' p = some (.lst (zs.map V.str)) → Q (.ref p) H'
theorem lc_mapS {K : PySem.W.Frag} {a : Addr} {zs : List Str} {j : Nat} {te : TE} {σ : L2.St} {H1 : Hp} {D : Addr} {Qd : Hp → Prop} (f : Str → Str) (hD : H1 D = none) (hS : SqL K H1 a (zs.map V.str)) (hn : zs.length ≤ 100000)
    (hs : ∀ z H Q, z ∈ zs → Same H1 H → (∀ H', Same H H' → Q (.str (f z)) H') → te ((σ.set j none).set j (some (.str z))) H Q) (hd : ∀ H, Same H1 H → H D = some (.lst ((zs.map f).map V.str)) → Qd H) :
    ∃ W : Nat → Nat → Hp → Prop, (∃ m, W 0 m (upd H1 D (.lst []))) ∧ ∀ i m H, W i m H →
      ((Itl K a).stop i H ∧ Qd H) ∨ ((Itl K a).go i H ∧ ∃ Nx : Hp → Prop, (∀ H', Nx H' → ∃ m', m' < m ∧ W (i + 1) m' H') ∧ ∀ x H', (Itl K a).yld i H x H' → gName j x (wipe σ [j]) H' fun σ2 H2 => wipe σ2 [j] = wipe σ [j] ∧ tYes σ2 H2 fun b H3 =>
        if b = true then te σ2 H3 fun y H4 => ∃ acc, H4 D = some (.lst acc) ∧ acc.length < sizeLine ∧ Nx (upd H4 D (.lst (acc ++ [y]))) else Nx H3) := by
  refine lc_map (f := fun v => match v with | .str z => .str (f z) | v => v) hD hS (by rw [List.length_map]; exact hn) (fun x H2 Q2 hx s2 q2 => ?_) (fun H2 s2 hD2 => ?_)
  · obtain ⟨z, hz, rfl⟩ := List.mem_map.mp hx
    exact hs z H2 Q2 hz s2 q2
  · refine hd H2 s2 ?_
    rw [hD2, List.map_map, List.map_map]; rfl
theorem flat_strs : ∀ zs : List Str, (zs.map V.str).all flatV = true
  | [] => rfl
  | _ :: r => flat_strs r
theorem inV_mem (z : Str) (zs : List Str) : inV (.str z) (zs.map V.str) = true ↔ z ∈ zs := by
  unfold inV
  rw [List.any_map, List.any_eq_true]
  constructor
  · rintro ⟨y, hy, e⟩
    have e' : (y == z) = true := e
    rw [← eq_of_beq e']; exact hy
  · intro h
    exact ⟨z, h, (beq_self_eq_true z : (z == z) = true)⟩

/-- a name that the module binds to an int -/
theorem pe_gint {X : Cx} {x : Str} {p : Pos} {i : Int} (hg : Gl X x) (hm : ∃ t, X.mg x = some (.int i t)) (hdb : (x == ("__debug__" : Str)) = false := by decide) : PE X (.Name x p) (tC (.int i)) := by
  obtain ⟨t, h⟩ := hm
  exact pe_glob hg h ⟨t, rfl⟩ hdb

/-! ### a loop over zip of two -/
theorem sqT_same {K : PySem.W.Frag} {H H' : Hp} {a : Addr} {xs : List V} (e : Same H H') (h : SqT K H a xs) : SqT K H' a xs := by
  rcases h with (h | ⟨o, h⟩) | h
  · exact .inl (.inl (e _ _ h))
  · exact .inl (.inr ⟨o, e _ _ h⟩)
  · exact .inr h
theorem for_zipD {K : PySem.W.Frag} {a b : Addr} {xs ys : List V} {g : TG} {tb : TS} {nx : L2.St → Hp → Prop} {rt : VK} {σ : L2.St} {H : Hp} (hl : xs.length = ys.length) (Pv : Nat → L2.St → Hp → Prop) (h0 : Pv 0 σ H) (hq : ∀ i σ H, Pv i σ H → SqT K H a xs ∧ SqT K H b ys)
    (hs : ∀ (i : Nat) (x y : V) (T : Addr) (σ : L2.St) (H : Hp), xs[i]? = some x → ys[i]? = some y → Pv i σ H → H T = none → g (.ref T) σ (upd H T (.tup [x, y])) fun σ2 H2 => tb { nx := Pv (i + 1), rt := rt, bk := nx, ct := Pv (i + 1) } σ2 H2) (hd : ∀ σ H, Pv xs.length σ H → nx σ H) :
    ∃ W : Nat → Nat → L2.St → Hp → Prop, (∃ m, W 0 m σ H) ∧ ∀ i m σ H, W i m σ H → ((RZ.ItzT K a b).stop i H ∧ nx σ H) ∨ ((RZ.ItzT K a b).go i H ∧ ∃ N : L2.St → Hp → Prop, (∀ σ' H', N σ' H' → ∃ m', m' < m ∧ W (i + 1) m' σ' H') ∧
      ∀ x H', (RZ.ItzT K a b).yld i H x H' → g x σ H' fun σ2 H2 => tb { nx := N, rt := rt, bk := nx, ct := N } σ2 H2) := RZ.for_zipT (D := { nx := nx, rt := rt }) hl Pv h0 hq hs hd
/-! ### a comprehension over a range, whose items are drawn -/
theorem lc_anyR {n j : Nat} {te : TE} {σ : L2.St} {H1 : Hp} {D : Addr} {Qd : Hp → Prop} (φ : V → Prop) (hD : H1 D = none) (hn : n ≤ 100000)
    (hs : ∀ i H Q, i < n → Same H1 H → (∀ y H', φ y → Same H H' → Q y H') → te ((σ.set j none).set j (some (.int i))) H Q) (hd : ∀ xs H, xs.length = n → (∀ x ∈ xs, φ x) → Same H1 H → H D = some (.lst xs) → Qd H) :
    ∃ W : Nat → Nat → Hp → Prop, (∃ m, W 0 m (upd H1 D (.lst []))) ∧ ∀ i m H, W i m H →
      ((Itr 0 n).stop i H ∧ Qd H) ∨ ((Itr 0 n).go i H ∧ ∃ Nx : Hp → Prop, (∀ H', Nx H' → ∃ m', m' < m ∧ W (i + 1) m' H') ∧ ∀ x H', (Itr 0 n).yld i H x H' → gName j x (wipe σ [j]) H' fun σ2 H2 => wipe σ2 [j] = wipe σ [j] ∧ tYes σ2 H2 fun b H3 =>
        if b = true then te σ2 H3 fun y H4 => ∃ acc, H4 D = some (.lst acc) ∧ acc.length < sizeLine ∧ Nx (upd H4 D (.lst (acc ++ [y]))) else Nx H3) := by
  refine lc_range (fun i H => Same H1 H ∧ ∃ xs : List V, xs.length = i ∧ (∀ x ∈ xs, φ x) ∧ H D = some (.lst xs)) ⟨Same.new hD, [], rfl, (fun _ z => nomatch z), upd_same⟩ (fun i H hi h => ?_) (fun H h => by obtain ⟨s, xs, hl, hx, hk⟩ := h; exact hd xs H hl hx s hk)
  rw [Int.zero_add]
  obtain ⟨s, xs, hl, hx, hk⟩ := h
  refine ⟨?_, ?_⟩
  · show (((σ.set j none).set j (some (V.int i))).set j none) = σ.set j none
    rw [List.set_set, List.set_set]
  · simp only [tYes, if_true]
    refine hs i H _ hi s fun y H' hy s' => ?_
    refine ⟨_, s' _ _ hk, ?_, fun b o e => ?_, xs ++ [y], ?_, fun x hx' => ?_, upd_same⟩
    · exact small64' (by omega)
    · have nb : b ≠ D := fun z => by rw [z, hD] at e; cases e
      rw [upd_ne nb]; exact s' _ _ (s _ _ e)
    · rw [List.length_append, hl]; rfl
    · rcases List.mem_append.mp hx' with z | z
      · exact hx x z
      · rw [List.mem_singleton] at z; rw [z]; exact hy
theorem ints_of {ψ : Int → Prop} : ∀ {xs : List V}, (∀ x ∈ xs, ∃ n, x = .int n ∧ ψ n) → ∃ ns : List Int, xs = ns.map V.int ∧ ∀ n ∈ ns, ψ n
  | [], _ => ⟨[], rfl, fun _ z => nomatch z⟩
  | x :: r, h => by
    obtain ⟨n, rfl, hn⟩ := h x (List.mem_cons_self ..)
    obtain ⟨ns, rfl, hns⟩ := ints_of fun y hy => h y (List.mem_cons_of_mem _ hy)
    refine ⟨n :: ns, rfl, fun m hm => ?_⟩
    rcases List.mem_cons.mp hm with e | hm
    · rw [e]; exact hn
    · exact hns m hm
theorem strs_of {ψ : Str → Prop} : ∀ {xs : List V}, (∀ x ∈ xs, ∃ z, x = .str z ∧ ψ z) → ∃ zs : List Str, xs = zs.map V.str ∧ ∀ z ∈ zs, ψ z
  | [], _ => ⟨[], rfl, fun _ z => nomatch z⟩
  | x :: r, h => by
    obtain ⟨n, rfl, hn⟩ := h x (List.mem_cons_self ..)
    obtain ⟨ns, rfl, hns⟩ := strs_of fun y hy => h y (List.mem_cons_of_mem _ hy)
    refine ⟨n :: ns, rfl, fun m hm => ?_⟩
    rcases List.mem_cons.mp hm with e | hm
    · rw [e]; exact hn
    · exact hns m hm

/-! ### a tape of numbers made from the script, and draws from it -/
def Nn (ts : List Int) : Prop := ∀ x ∈ ts, 0 ≤ x
theorem nn_nil : Nn [] := fun _ h => nomatch h
theorem Nn.snoc {ts : List Int} (h : Nn ts) {x : Int} (hx : 0 ≤ x) : Nn (ts ++ [x]) := fun y hy => by
  rcases List.mem_append.mp hy with hy | hy
  · exact h y hy
  · rw [List.mem_singleton] at hy; omega
def LstT (H : Hp) (Q : VK) (xs : List Int) : Prop := ∀ p H', Same H H' → H p = none → H' p = some (.lst (xs.map V.int)) → Q (.ref p) H'
def sp__law_tape (K : PySem.W.Frag) (cs : Cs) : Sp := fun vs H Q _ => ∃ (a : Addr) (ns : List Int), vs = [.ref a] ∧ SqL K H a (ns.map V.int) ∧ ns.length ≤ 63 ∧ ∀ ts : List Int, Nn ts → ts.length ≤ 2520 → LstT H Q ts
def sp__law_draw (K : PySem.W.Frag) (cs : Cs) : Sp := fun vs H Q _ => ∃ (a : Addr) (ts : List Int) (p : Int) (m : Int), vs = [.ref a, .int p, .int m] ∧ SqL K H a (ts.map V.int) ∧ (0 ≤ p ∧ p ≤ 1000000) ∧ 0 < m ∧ ∀ v : Int, 0 ≤ v → v < m → Q (.int v) H
section
variable {P : Program} {w : World} {K : PySem.W.Frag} {mg : Str → Option Value} {base : Heap} {cs : Cs}
theorem c__law_tape (D : Def K mg "_law_tape" s__law_tape ["script"]) (T : Tp w K mg cs)  : Cal P w K mg base CX0 1 "_law_tape" (sp__law_tape K cs) := by
  refine D.ok sc__law_tape (fun vs H Q E h => ?_) (fun f cdv A outer s H vs Q E hr h => ?_)
  · obtain ⟨a, ns, rfl, _⟩ := h; rfl
  · obtain ⟨a, ns, rfl, hS, hlen, q⟩ := h
    refine ⟨_, (pss_cons (ps_set (i := 1) sc__law_tape.nd rfl (by first | exact Or.inl rfl | exact Or.inr rfl) (pe_lst pa_nil))
      (pss_cons (ps_for PassesOwn.never rfl (pi_list (pv 0)) (pg_name (i := 2) sc__law_tape.nd rfl (by first | exact Or.inl rfl | exact Or.inr rfl)) (pss_cons (ps_set (i := 3) sc__law_tape.nd rfl (by first | exact Or.inl rfl | exact Or.inr rfl) (pe_op op_mul pe_int (pe_callTy call_int1 (by rfl) T.m_int (by decide +kernel) (pa_cons (pv 2) pa_nil))))
      (C8.pss_cut (ps_if (pt_cmpR op_lt (pv 3) pe_int (by first | rfl | exact nomark _)) (pss_one (ps_set (i := 3) sc__law_tape.nd rfl (by first | exact Or.inl rfl | exact Or.inr rfl) (pe_op op_sub (pe_un un_neg pe_int) (pv 3)))) pss_nil)
      (pss_one (ps_if (pt_cmpR op_ge (pv 3) (pe_op op_pow pe_int pe_int) (by first | rfl | exact nomark _)) (pss_one (ps_for PassesOwn.never rfl (pi_range1 (by rfl) T.m_range (pa_cons pe_int pa_nil)) (pg_name (i := 4) sc__law_tape.nd rfl (by first | exact Or.inl rfl | exact Or.inr rfl)) (pss_one (ps_if (pt_cmpR op_gt (pv 3) pe_int (by first | rfl | exact nomark _)) (pss_cons (ps_expr (pe_bm PySem.F.plainAttrs_list PySem.F.slot_list_append PySem.F.type_list_append mt_append (pv 1) (pa_cons (pe_op op_mod (pe_callTy call_int1 (by rfl) T.m_int (by decide +kernel) (pa_cons (pv 3) pa_nil)) pe_int) pa_nil)))
      (pss_one (ps_set (i := 3) sc__law_tape.nd rfl (by first | exact Or.inl rfl | exact Or.inr rfl) (pe_op op_fdiv (pv 3) pe_int)))) pss_nil)))) (pss_one (ps_for PassesOwn.never rfl (pi_range1 (by rfl) T.m_range (pa_cons pe_int pa_nil)) (pg_name (i := 4) sc__law_tape.nd rfl (by first | exact Or.inl rfl | exact Or.inr rfl)) (pss_cons (ps_set (i := 5) sc__law_tape.nd rfl (by first | exact Or.inl rfl | exact Or.inr rfl) (pe_op op_mod (pe_callTy call_int1 (by rfl) T.m_int (by decide +kernel) (pa_cons (pe_op op_add (pe_op op_add (pe_op op_mul (pv 3) pe_int) (pe_op op_mul (pv 4) pe_int)) pe_int) pa_nil)) pe_int))
      (pss_one (ps_expr (pe_bm PySem.F.plainAttrs_list PySem.F.slot_list_append PySem.F.type_list_append mt_append (pv 1) (pa_cons (pe_op op_mod (pe_callTy call_int1 (by rfl) T.m_int (by decide +kernel) (pa_cons (pe_op op_add (pe_op op_mul (pv 5) pe_int) (pe_op op_fdiv (pv 5) pe_int)) pa_nil)) pe_int) pa_nil))))))))))))
      (pss_one (ps_ret (pv 1))))), ?_⟩
    walk_at "go"
    intro p hp
    generalize e1 : upd H p (.lst []) = H1
    obtain ⟨s1, k1⟩ : Same H H1 ∧ H1 p = some (.lst (([] : List Int).map V.int)) := by subst e1; exact ⟨Same.new hp, upd_same⟩
    refine ⟨_, rfl, a, rfl, ⟨_, s1.seq hS⟩, for_listD (xs := ns.map V.int) (fun i σ H2 => ∃ (ts : List Int) (o2 o3 o4 o5 : Option V), σ = [some (.ref a), some (.ref p), o2, o3, o4, o5] ∧ Nn ts ∧ ts.length ≤ 40 * i ∧ Same H H2 ∧ H2 p = some (.lst (ts.map V.int)))
      ⟨[], _, _, _, _, rfl, nn_nil, Nat.le_refl _, s1, k1⟩ (fun i σ H2 _ h => by obtain ⟨ts, o2, o3, o4, o5, _, _, _, s2, _⟩ := h; exact s2.seq hS) ?_ ?_⟩
    · rintro i x _ H2 hx ⟨ts, o2, o3, o4, o5, rfl, hN, hl, s2, k2⟩
      obtain ⟨n, rfl⟩ : ∃ n, x = .int n := by
        rw [List.getElem?_map] at hx
        cases e : ns[i]? with
        | none => rw [e] at hx; cases hx
        | some k => rw [e] at hx; cases hx; exact ⟨k, rfl⟩
      have hi : i < ns.length := by
        have := (List.getElem?_eq_some_iff.mp hx).1
        rw [List.length_map] at this; exact this
      walk_at "go"
      refine ⟨fun σ H3 => H2 = H3 ∧ ∃ m : Int, 0 ≤ m ∧ σ = [some (.ref a), some (.ref p), some (.int n), some (.int m), o4, o5], ?_, ?_⟩
      · walk_at "go"
        refine ite2 (fun c => ?_) (fun c => ?_)
        · have c' : 2 * n < 0 := of_decide_eq_true c
          walk_at "go"
          exact ⟨_, by omega, rfl⟩
        · have c' : ¬ 2 * n < 0 := of_decide_eq_false (Bool.eq_false_iff.mpr c)
          exact ⟨rfl, _, by omega, rfl⟩
      rintro _ _ ⟨rfl, m, hm, rfl⟩
      walk_at "go"
      refine ite2 (fun c => ?_) (fun c => ?_)
      · refine ⟨_, rfl, by decide, by decide, for_rangeD (lo := 0) (n := 40) (fun j σ H3 => ∃ (ts' : List Int) (m' : Int) (o : Option V), σ = [some (.ref a), some (.ref p), some (.int n), some (.int m'), o, o5] ∧ Nn ts' ∧ ts'.length ≤ 40 * i + j ∧ Same H H3 ∧ H3 p = some (.lst (ts'.map V.int)))
          ⟨ts, m, _, rfl, hN, by omega, s2, k2⟩ ?_ ?_⟩
        · rintro j _ H3 hj ⟨ts', m', o, rfl, hN', hl', s3, k3⟩
          walk_at "go"
          refine ite2 (fun c => ?_) (fun c => ?_)
          · refine ⟨_, rfl, .inl ⟨rfl, _, SqL.of k3⟩, ?_⟩
            walk_at "go"
            refine ⟨_, _, _, rfl, rfl, k3, (by rw [List.length_map]; exact small64' (by omega)), ?_⟩
            walk_at "go"
            refine ⟨ts' ++ [m' % 1000], _, _, rfl, hN'.snoc (by omega), by rw [List.length_append, List.length_singleton]; omega, fun b o e => ?_, ?_⟩
            · rw [upd_ne (ne_of_none e hp)]; exact s3 _ _ e
            · rw [upd_same, List.map_append]; rfl
          · exact ⟨ts', m', _, rfl, hN', by omega, s3, k3⟩
        · rintro _ H3 ⟨ts', m', o, rfl, hN', hl', s3, k3⟩
          exact ⟨ts', _, _, _, _, rfl, hN', by omega, s3, k3⟩
      · refine ⟨_, rfl, by decide, by decide, for_rangeD (lo := 0) (n := 3) (fun j σ H3 => ∃ (ts' : List Int) (o o' : Option V), σ = [some (.ref a), some (.ref p), some (.int n), some (.int m), o, o'] ∧ Nn ts' ∧ ts'.length ≤ 40 * i + j ∧ Same H H3 ∧ H3 p = some (.lst (ts'.map V.int)))
          ⟨ts, _, _, rfl, hN, by omega, s2, k2⟩ ?_ ?_⟩
        · rintro j _ H3 hj ⟨ts', o, o', rfl, hN', hl', s3, k3⟩
          walk_at "go"
          refine ⟨.inl ⟨rfl, _, SqL.of k3⟩, ?_⟩
          walk_at "go"
          generalize (m * 48271 + (0 + (j : Int)) * 40503 + 11) % 2147483629 = fi
          refine ⟨_, _, _, rfl, rfl, k3, (by rw [List.length_map]; exact small64' (by omega)), ?_⟩
          walk_at "go"
          refine ⟨ts' ++ [(fi * 69621 + fi / 65536) % 2147483629], _, _, rfl, hN'.snoc (by omega), by rw [List.length_append, List.length_singleton]; omega, fun b o e => ?_, ?_⟩
          · rw [upd_ne (ne_of_none e hp)]; exact s3 _ _ e
          · rw [upd_same, List.map_append]; rfl
        · rintro _ H3 ⟨ts', o, o', rfl, hN', hl', s3, k3⟩
          exact ⟨ts', _, _, _, _, rfl, hN', by omega, s3, k3⟩
    · rintro _ H2 ⟨ts, o2, o3, o4, o5, rfl, hN, hl, s2, k2⟩
      rw [List.length_map] at hl
      walk_at "go"
      exact q ts hN (by omega) p H2 s2 hp k2
theorem c__law_draw (D : Def K mg "_law_draw" s__law_draw ["tape", "at", "many"]) (T : Tp w K mg cs)  : Cal P w K mg base CX0 1 "_law_draw" (sp__law_draw K cs) := by
  refine D.ok sc__law_draw (fun vs H Q E h => ?_) (fun f cdv A outer s H vs Q E hr h => ?_)
  · obtain ⟨a, ts, p, m, rfl, _⟩ := h; rfl
  · obtain ⟨a, ts, p, m, rfl, hS, ⟨hp0, hp⟩, hm, q⟩ := h
    obtain ⟨p, rfl⟩ := Int.eq_ofNat_of_zero_le hp0
    refine ⟨_, (pss_cons (ps_if (pt_cmpR op_lt (pv 1) (pe_callB call_len_seq (by rfl) T.m_len PySem.boot_len (pa_cons (pv 0) pa_nil)) (by first | rfl | exact nomark _)) (pss_one (ps_ret (pe_op op_mod (pe_callTy call_int1 (by rfl) T.m_int (by decide +kernel) (pa_cons (pe_ix ix_list (pv 0) (pv 1) (fun _ _ => rfl)) pa_nil)) (pv 2)))) pss_nil)
      (pss_cons (ps_set (i := 3) sc__law_draw.nd rfl (by first | exact Or.inl rfl | exact Or.inr rfl) pe_int)
      (C8.pss_cut (ps_if (pt_cmpR op_gt (pe_callB call_len_seq (by rfl) T.m_len PySem.boot_len (pa_cons (pv 0) pa_nil)) pe_int (by first | rfl | exact nomark _)) (pss_one (ps_set (i := 3) sc__law_draw.nd rfl (by first | exact Or.inl rfl | exact Or.inr rfl) (pe_ix ix_list (pv 0) (pe_op op_mod (pe_callTy call_int1 (by rfl) T.m_int (by decide +kernel) (pa_cons (pv 1) pa_nil)) (pe_callB call_len_seq (by rfl) T.m_len PySem.boot_len (pa_cons (pv 0) pa_nil))) (fun _ _ => rfl)))) pss_nil)
      (pss_one (ps_ret (pe_op op_mod (pe_op op_mod (pe_callTy call_int1 (by rfl) T.m_int (by decide +kernel) (pa_cons (pe_op op_add (pe_op op_mul (pe_op op_mul (pe_op op_add (pv 3) (pv 1)) (pe_op op_add (pv 1) pe_int)) pe_int) (pe_op op_mul (pv 1) pe_int)) pa_nil)) pe_int) (pv 2))))))), ?_⟩
    walk_at "go"
    simp only [List.length_map]
    refine ite2 (fun c => ?_) (fun c => ?_)
    · have c' : (p : Int) < ts.length := of_decide_eq_true c
      walk_at "go"
      exact q _ (Int.emod_nonneg _ (by omega)) (Int.emod_lt_of_pos _ hm)
    · walk_at "go"
      refine ⟨fun σ H2 => H = H2 ∧ ∃ n : Int, σ = [some (.ref a), some (.int p), some (.int m), some (.int n)], ?_, ?_⟩
      · walk_at "go"
        simp only [List.length_map]
        refine ite2 (fun c => ?_) (fun c => ?_)
        · have c' : (0 : Int) < ts.length := of_decide_eq_true c
          obtain ⟨k, ek, hk⟩ : ∃ k : Nat, (p : Int) % (ts.length : Int) = (k : Int) ∧ k < ts.length := ⟨p % ts.length, by omega, Nat.mod_lt _ (by omega)⟩
          walk_at "go"
          simp only [List.length_map, ek]
          refine ⟨by show (0 : Int) < ts.length; omega, ?_⟩
          walk_at "go"
          exact ⟨_, rfl⟩
        · exact ⟨rfl, _, rfl⟩
      rintro _ _ ⟨rfl, n, rfl⟩
      walk_at "go"
      exact q _ (Int.emod_nonneg _ (by omega)) (Int.emod_lt_of_pos _ hm)
end

/-! ### signatures, stores, modules -/
abbrev Shape := List Str × List Str
def OkS (s : Shape) : Prop := (∀ z ∈ s.1, z = "i32" ∨ z = "i64") ∧ (∀ z ∈ s.2, z = "i32" ∨ z = "i64") ∧ s.1.length ≤ 6 ∧ s.2.length ≤ 6
/-- a signature at T -/
def Sg (H : Hp) (T : Addr) (s : Shape) : Prop := ∃ p r, H T = some (.tup [.ref p, .ref r]) ∧ H p = some (.tup (s.1.map V.str)) ∧ H r = some (.tup (s.2.map V.str))
theorem Sg.mono {H H' : Hp} {T : Addr} {s : Shape} (e : Same H H') (h : Sg H T s) : Sg H' T s := by
  obtain ⟨p, r, h1, h2, h3⟩ := h
  exact ⟨p, r, e _ _ h1, e _ _ h2, e _ _ h3⟩
def datS (zs : List Str) : PyData := .tuple (zs.map PyData.str)
def dat (s : Shape) : PyData := .tuple [datS s.1, datS s.2]
theorem dp_strs {K : PySem.W.Frag} {H : Hp} : ∀ zs : List Str, DpAll K H (zs.map V.str) (zs.map PyData.str)
  | [] => .nil
  | _ :: r => .cons (.str _) (dp_strs r)
theorem Sg.dp {K : PySem.W.Frag} {H : Hp} {T : Addr} {s : Shape} (h : Sg H T s) : Dp K H (.ref T) (dat s) := by
  obtain ⟨p, r, h1, h2, h3⟩ := h
  exact .tup (SqT.of h1) (.cons (.tup (SqT.of h2) (dp_strs _)) (.cons (.tup (SqT.of h3) (dp_strs _)) .nil))
theorem canlay_strs : ∀ {zs : List Str}, (∀ z ∈ zs, PyData.strOk z = true) → PyData.canLayAll0 (zs.map PyData.str) = true
  | [], _ => rfl
  | z :: r, h => by
    show PyData.canLayAll0 (PyData.str z :: r.map PyData.str) = true
    simp only [PyData.canLayAll0, PyData.canLay0, h z (List.mem_cons_self ..), canlay_strs fun y hy => h y (List.mem_cons_of_mem _ hy), Bool.and_self]
theorem depth_strs : ∀ zs : List Str, PyData.depthAll (zs.map PyData.str) ≤ 1
  | [] => by simp [PyData.depthAll]
  | _ :: r => by
    have h := depth_strs r
    simp [PyData.depthAll, PyData.depth] at h ⊢
    omega
theorem ok_kind {z : Str} (h : z = "i32" ∨ z = "i64") : PyData.strOk z = true := by
  rcases h with rfl | rfl <;> decide +kernel
theorem dat_shaped {s : Shape} (h : OkS s) : SeqAt.shaped (dat s) = true := by
  unfold SeqAt.shaped dat datS
  have c1 := canlay_strs fun z hz => ok_kind (h.1 z hz)
  have c2 := canlay_strs fun z hz => ok_kind (h.2.1 z hz)
  have d1 := depth_strs s.1
  have d2 := depth_strs s.2
  rw [Bool.and_eq_true]
  refine ⟨?_, decide_eq_true ?_⟩
  · simp only [PyData.canLay0, PyData.canLayAll0, c1, c2, Bool.and_self]
  · simp only [PyData.depth, PyData.depthAll] at d1 d2 ⊢
    omega
theorem eqvAll_strs : ∀ zs ys : List Str, PyData.eqvAll (zs.map PyData.str) (ys.map PyData.str) = decide (zs = ys)
  | [], [] => by simp [PyData.eqvAll]
  | [], _ :: _ => by simp [PyData.eqvAll]
  | _ :: _, [] => by simp [PyData.eqvAll]
  | n :: ns, m :: ms => by
    rw [List.map_cons, List.map_cons, PyData.eqvAll, eqvAll_strs ns ms, PyData.eqv, Bool.eq_iff_iff]
    simp
theorem eqv_dat (s t : Shape) : PyData.eqv (dat s) (dat t) = decide (s = t) := by
  unfold dat datS
  rw [PyData.eqv, PyData.eqvAll, PyData.eqvAll, PyData.eqvAll, PyData.eqv, PyData.eqv, eqvAll_strs, eqvAll_strs, Bool.eq_iff_iff]
  simp [Prod.ext_iff]
theorem eqD_sg {K : PySem.W.Frag} {H : Hp} {a b : Addr} {s t : Shape} {Q : VK} (h1 : Sg H a s) (h2 : Sg H b t) (o1 : OkS s) (o2 : OkS t) (q : Q (.bl (decide (s = t))) H) : rEqD K (.ref a) (.ref b) H Q :=
  ⟨_, _, h1.dp, h2.dp, dat_shaped o1, dat_shaped o2, by rw [eqv_dat]; exact q⟩
/-- a pair of a text and a bool -/
def datKB (z : Str) (b : Bool) : PyData := .tuple [.str z, .bool b]
theorem datKB_shaped {z : Str} {b : Bool} (h : PyData.strOk z = true) : SeqAt.shaped (datKB z b) = true := by
  unfold SeqAt.shaped datKB
  simp [PyData.canLay0, PyData.canLayAll0, PyData.depth, PyData.depthAll, h]
theorem eqv_KB (z y : Str) (b c : Bool) : PyData.eqv (datKB z b) (datKB y c) = (decide (z = y) && decide (b = c)) := by
  unfold datKB
  rw [PyData.eqv, PyData.eqvAll, PyData.eqvAll, PyData.eqvAll, PyData.eqv, PyData.eqv, Bool.eq_iff_iff]
  simp
theorem eqD_KB {K : PySem.W.Frag} {H : Hp} {p r : Addr} {z y : Str} {b c : Bool} {Q : VK} (h1 : SqT K H p [.str z, .bl b]) (h2 : SqT K H r [.str y, .bl c]) (o1 : PyData.strOk z = true) (o2 : PyData.strOk y = true) (q : Q (.bl (decide (z = y) && decide (b = c))) H) : rEqD K (.ref p) (.ref r) H Q :=
  ⟨datKB z b, datKB y c, .tup h1 (.cons (.str _) (.cons (.bl _) .nil)), .tup h2 (.cons (.str _) (.cons (.bl _) .nil)), datKB_shaped o1, datKB_shaped o2, by rw [eqv_KB]; exact q⟩
theorem eqD_bl {K : PySem.W.Frag} {H : Hp} {b c : Bool} {Q : VK} (q : Q (.bl (decide (b = c))) H) : rEqD K (.bl b) (.bl c) H Q :=
  ⟨.bool b, .bool c, .bl _, .bl _, by simp [SeqAt.shaped, PyData.canLay0, PyData.depth], by simp [SeqAt.shaped, PyData.canLay0, PyData.depth], by
    rw [show PyData.eqv (.bool b) (.bool c) = decide (b = c) from by rw [PyData.eqv, Bool.eq_iff_iff]; simp]; exact q⟩
theorem newO {H H' : Hp} {p : Addr} {o : HO} (h : H p = none) (e : upd H p o = H') : Same H H' ∧ H' p = some o := by subst e; exact ⟨Same.new h, upd_same⟩
theorem cut_mid (xs : List V) {k n : Nat} (h : k ≤ n) : cutV xs (some (k : Int)) (some (n : Int)) = (xs.take n).drop k := by
  unfold cutV
  rw [HT.sIx_nat, HT.sIx_nat, List.drop_take]
  rcases Nat.le_total k xs.length with h1 | h1
  · rw [Nat.min_eq_left h1]
    rcases Nat.le_total n xs.length with h2 | h2
    · rw [Nat.min_eq_left h2]
    · rw [Nat.min_eq_right h2, List.take_of_length_le (by rw [List.length_drop]; omega), List.take_of_length_le (by rw [List.length_drop]; omega)]
  · rw [Nat.min_eq_right h1, List.drop_of_length_le (by omega), List.drop_of_length_le h1]; simp
/-- another object than the list at l -/
theorem ne_lst {H : Hp} {a l : Addr} {o : HO} {xs : List V} (h : H a = some o) (hl : H l = some (.lst xs)) (ho : ∀ ys, o ≠ .lst ys) : a ≠ l := fun e => by
  subst e; rw [hl] at h; cases h; exact ho _ rfl
/-! objects -/
def Tab (cs : Cs) (H : Hp) (p : Addr) (n m : Int) : Prop := ∃ dx e xs, H p = some (.ins cs.C_Table dx (fs_Table (.ref e) (.int m))) ∧ H e = some (.lst xs) ∧ (xs.length : Int) = n
def Mem (cs : Cs) (H : Hp) (p : Addr) (n m : Int) : Prop := ∃ dx d, H p = some (.ins cs.C_Memory dx (fs_Memory (.int n) (.int m) (.ref d)))
def Glo (cs : Cs) (H : Hp) (p : Addr) (k : Str) (b : Bool) (v : Int) : Prop := ∃ dx, H p = some (.ins cs.C_Global dx (fs_Global (.str k) (.bl b) (.int v)))
/-- a store and its six lists -/
def Sto (cs : Cs) (H : Hp) (p lf lt lm lv lg li : Addr) : Prop := ∃ dx, H p = some (.ins cs.C_Store dx (fs_Store (.ref lf) (.ref lt) (.ref lm) (.ref lv) (.ref lg) (.ref li)))
def sp_Table___init__ (K : PySem.W.Frag) (cs : Cs) : Sp := fun vs H Q _ => ∃ (p dx : Addr) (n m : Int), vs = [.ref p, .int n, .int m] ∧ H p = some (.ins cs.C_Table dx []) ∧ (0 ≤ n ∧ n ≤ 1000) ∧ ∀ (e : Addr) (xs : List V) H', H' p = some (.ins cs.C_Table dx (fs_Table (.ref e) (.int m))) → H' e = some (.lst xs) → (xs.length : Int) = n → H e = none → SameBut [p] H H' → Q .non H'
def sp_Memory___init__ (K : PySem.W.Frag) (cs : Cs) : Sp := fun vs H Q _ => ∃ (p dx : Addr) (n m : Int), vs = [.ref p, .int n, .int m] ∧ H p = some (.ins cs.C_Memory dx []) ∧ ∀ H', Mem cs H' p n m → SameBut [p] H H' → Q .non H'
def sp_Global___init__ (K : PySem.W.Frag) (cs : Cs) : Sp := fun vs H Q _ => ∃ (p dx : Addr) (k : Str) (b : Bool) (v : Int), vs = [.ref p, .str k, .bl b, .int v] ∧ H p = some (.ins cs.C_Global dx []) ∧ ∀ H', Glo cs H' p k b v → SameBut [p] H H' → Q .non H'
def sp_Store___init__ (K : PySem.W.Frag) (cs : Cs) : Sp := fun vs H Q _ => ∃ (p dx : Addr), vs = [.ref p] ∧ H p = some (.ins cs.C_Store dx []) ∧ ∀ lf lt lm lv lg li H', Sto cs H' p lf lt lm lv lg li → (∀ l ∈ [lf, lt, lm, lv, lg, li], H l = none ∧ H' l = some (.lst [])) → [lf, lt, lm, lv, lg, li].Nodup → SameBut [p] H H' → Q .non H'
def Sto.kind (lf lt lm lv lg li : Addr) (z : Str) : Addr := if z = "func" then lf else if z = "table" then lt else if z = "memory" then lm else if z = "global" then lv else if z = "tag" then lg else li
def sp_items_of (K : PySem.W.Frag) (cs : Cs) : Sp := fun vs H Q _ => ∃ (p lf lt lm lv lg li : Addr) (z : Str), vs = [.ref p, .str z] ∧ Sto cs H p lf lt lm lv lg li ∧ Q (.ref (Sto.kind lf lt lm lv lg li z)) H
def sp_host_functions (K : PySem.W.Frag) (cs : Cs) : Sp := fun vs H Q _ => ∃ (p lf lt lm lv lg li : Addr), vs = [.ref p] ∧ Sto cs H p lf lt lm lv lg li ∧ H lf = some (.lst []) ∧ ∀ q H', Same H H' → H q = none → H' q = some (.lst []) → Q (.ref q) H'
def sp_check_signature (K : PySem.W.Frag) (cs : Cs) : Sp := fun vs H Q _ => ∃ (p r : Addr) (ps rs : List V), vs = [.ref p, .ref r] ∧ H p = some (.tup ps) ∧ H r = some (.tup rs) ∧ ps.length ≤ 16 ∧ rs.length ≤ 16 ∧ Q .non H
def sp_add_host (K : PySem.W.Frag) (cs : Cs) : Sp := fun vs H Q _ => ∃ (s p r lf lt lm lv lg li : Addr) (ps rs : List V), vs = [.ref s, .ref p, .ref r] ∧ Sto cs H s lf lt lm lv lg li ∧ H lf = some (.lst []) ∧ H p = some (.tup ps) ∧ H r = some (.tup rs) ∧ ps.length ≤ 16 ∧ rs.length ≤ 16 ∧
  ∀ F T H', SameBut [lf] H H' → H' lf = some (.lst [.ref F]) → H' F = some (.tup [.str "host", .int 0, .ref T]) → H' T = some (.tup [.ref p, .ref r]) → Q (.int 0) H'
inductive Lim | none | some (n : Int)
def Lim.v : Lim → V
  | .none => .non
  | .some n => .int n
def Lim.fits (size most least : Int) : Lim → Bool
  | .none => decide (least ≤ size)
  | .some g => decide (least ≤ size) && decide (most ≤ g)
def sp_size_fits (K : PySem.W.Frag) (cs : Cs) : Sp := fun vs H Q _ => ∃ (size most least : Int) (L : Addr) (g : Lim), vs = [.int size, .int most, .ref L] ∧ SqT K H L [.int least, g.v] ∧ Q (.bl (g.fits size most least)) H
/-- a module whose signatures are x0 -/
def Modu (cs : Cs) (H : Hp) (p : Addr) (x0 : V) : Prop := ∃ (dx : Addr) (m1 m2 m3 m4 m5 m6 m7 m8 m9 m10 : V), H p = some (.ins cs.C_Module dx (fs_Module x0 m1 m2 m3 m4 m5 m6 m7 m8 m9 m10))
def sp_Module___init__ (K : PySem.W.Frag) (cs : Cs) : Sp := fun vs H Q _ => ∃ (p dx : Addr) (x0 : V), vs = [.ref p, x0, .ref cs.e_Module_imports, .ref cs.e_Module_functions, .ref cs.e_Module_tables, .ref cs.e_Module_memories, .ref cs.e_Module_tags, .ref cs.e_Module_variables, .ref cs.e_Module_exports, .non, .ref cs.e_Module_table_segments, .ref cs.e_Module_memory_segments] ∧ H p = some (.ins cs.C_Module dx []) ∧ ∀ H', Modu cs H' p x0 → SameBut [p] H H' → Q .non H'
def sp_item_fits (K : PySem.W.Frag) (cs : Cs) : Sp := fun vs H Q _ => ∃ (st mo row lf lt lm lv lg li sg : Addr) (x0 x1 wv : V) (kind : Str) (TS : List V), vs = [.ref st, .ref mo, .ref row, .int 0] ∧ Sto cs H st lf lt lm lv lg li ∧ H row = some (.tup [x0, x1, .str kind, wv]) ∧ Modu cs H mo (.ref sg) ∧ H sg = some (.tup TS) ∧
  ((kind = "func" ∧ ∃ (k : Nat) (F T Tk : Addr) (s sk : Shape), wv = .int (k : Int) ∧ H lf = some (.lst [.ref F]) ∧ H F = some (.tup [.str "host", .int 0, .ref T]) ∧ Sg H T s ∧ TS[k]? = some (.ref Tk) ∧ Sg H Tk sk ∧ OkS s ∧ OkS sk ∧ ∀ H', Same H H' → Q (.bl (decide (s = sk))) H') ∨
   (kind = "tag" ∧ ∃ (k : Nat) (T Tk : Addr) (s sk : Shape), wv = .int (k : Int) ∧ H lg = some (.lst [.ref T]) ∧ Sg H T s ∧ TS[k]? = some (.ref Tk) ∧ Sg H Tk sk ∧ OkS s ∧ OkS sk ∧ ∀ H', Same H H' → Q (.bl (decide (s = sk))) H') ∨
   (kind = "global" ∧ ∃ (W G : Addr) (z y : Str) (b c : Bool) (v : Int), wv = .ref W ∧ H W = some (.tup [.str y, .bl c]) ∧ H lv = some (.lst [.ref G]) ∧ Glo cs H G z b v ∧ PyData.strOk z = true ∧ PyData.strOk y = true ∧ ∀ H', Same H H' → Q (.bl (decide (z = y) && decide (b = c))) H') ∨
   (kind = "table" ∧ ∃ (L t : Addr) (least n m : Int) (g : Lim), wv = .ref L ∧ H L = some (.tup [.int least, g.v]) ∧ H lt = some (.lst [.ref t]) ∧ Tab cs H t n m ∧ ∀ H', Same H H' → Q (.bl (g.fits n m least)) H') ∨
   (kind = "memory" ∧ ∃ (L t : Addr) (least n m : Int) (g : Lim), wv = .ref L ∧ H L = some (.tup [.int least, g.v]) ∧ H lm = some (.lst [.ref t]) ∧ Mem cs H t n m ∧ ∀ H', Same H H' → Q (.bl (g.fits n m least)) H'))
theorem sto_step {H G : Hp} {p a : Addr} {o o' : HO} (b : SameBut [p] H G) (kp : G p = some o) (ho : ∀ xs, o ≠ .lst xs) (ha : G a = none) : SameBut [p] H (upd (upd G a (.lst [])) p o') ∧ (upd (upd G a (.lst [])) p o') p = some o' ∧ (upd (upd G a (.lst [])) p o') a = some (.lst []) ∧
    p ≠ a ∧ H a = none ∧ ∀ l xs, G l = some (.lst xs) → (upd (upd G a (.lst [])) p o') l = some (.lst xs) ∧ l ≠ a := by
  have n1 : p ≠ a := fun e => by subst e; rw [ha] at kp; cases kp
  refine ⟨fun c x nc e => ?_, upd_same, ?_, n1, ?_, fun l xs hl => ?_⟩
  · have cp : c ≠ p := fun z => nc (List.mem_singleton.mpr z)
    have e2 := b c x nc e
    rw [upd_ne cp, upd_ne (ne_of_none e2 ha)]; exact e2
  · rw [upd_ne n1.symm, upd_same]
  · cases e : H a with
    | none => rfl
    | some x =>
      have := b a x (fun z => n1 (List.mem_singleton.mp z).symm) e
      rw [ha] at this; cases this
  · have lp : l ≠ p := fun z => by
      subst z
      rw [kp] at hl; cases hl; exact ho _ rfl
    have la : l ≠ a := ne_of_none hl ha
    rw [upd_ne lp, upd_ne la]
    exact ⟨hl, la⟩
section
variable {P : Program} {w : World} {K : PySem.W.Frag} {mg : Str → Option Value} {base : Heap} {cs : Cs}
theorem c_Table___init__ (D : DefI K (Cs.C_Table cs) "Table.__init__" s_Table___init__ ["self", "size", "most"]) (T : Tp w K mg cs)  : CalI P w K mg base CX0 (Cs.C_Table cs) 1 (sp_Table___init__ K cs) := by
  refine D.ok sc_Table___init__ (fun vs H Q E h => ?_) (fun f cdv A outer s H vs Q E hr h => ?_)
  · obtain ⟨p, dx, n, m, rfl, _⟩ := h; rfl
  · obtain ⟨p, dx, n, m, rfl, hp, ⟨hn0, hn⟩, q⟩ := h
    refine ⟨_, (pss_cons (ps_fld (pv 0) (pe_op op_rep (pe_lst (pa_cons pe_non pa_nil)) (pv 1)) rfl)
      (pss_one (ps_fld (pv 0) (pv 2) rfl))), ?_⟩
    walk_at "go"
    intro e1 he1
    generalize x1 : upd H e1 _ = H1
    obtain ⟨s1, k1⟩ := newO he1 x1
    clear x1
    refine ⟨_, rfl, e1, n, _, rfl, rfl, k1, by omega, by omega, small64 (by show 1 * n.toNat ≤ _; omega), fun e he => ?_⟩
    have ll : ((List.replicate n.toNat [V.non]).flatten).length = n.toNat := by simp
    generalize (List.replicate n.toNat [V.non]).flatten = xs at ll
    generalize x2 : upd H1 e _ = H2
    obtain ⟨s2, k2⟩ := newO he x2
    clear x2
    have s12 := s1.trans s2
    have ne : e ≠ p := fun z => by subst z; rw [s1 _ _ hp] at he; cases he
    refine ⟨_, rfl, p, _, dx, _, rfl, s12 _ _ hp, T.cl_Table, T.n_Table_entries, (by show 0 < 1000; decide), ?_⟩
    rw [in_Table_0 (x0 := .ref e) (x1 := .int m)]
    refine ⟨_, rfl, _, rfl, p, _, dx, _, rfl, upd_same, T.cl_Table, T.n_Table_most, (by show 1 < 1000; decide), ?_⟩
    rw [in_Table_1 (x0 := .ref e) (x1 := .int m)]
    have mm : p ∈ [p] := List.mem_singleton.mpr rfl
    refine q e xs _ upd_same ?_ (by omega) (none_of s1 he) (((Same.but s12).upd mm).upd mm)
    rw [upd_ne ne, upd_ne ne]; exact k2
theorem c_Memory___init__ (D : DefI K (Cs.C_Memory cs) "Memory.__init__" s_Memory___init__ ["self", "pages", "most"]) (T : Tp w K mg cs)  : CalI P w K mg base CX0 (Cs.C_Memory cs) 1 (sp_Memory___init__ K cs) := by
  refine D.ok sc_Memory___init__ (fun vs H Q E h => ?_) (fun f cdv A outer s H vs Q E hr h => ?_)
  · obtain ⟨p, dx, n, m, rfl, _⟩ := h; rfl
  · obtain ⟨p, dx, n, m, rfl, hp, q⟩ := h
    refine ⟨_, (pss_cons (ps_fld (pv 0) (pv 1) rfl)
      (pss_cons (ps_fld (pv 0) (pv 2) rfl)
      (pss_one (ps_fld (pv 0) pe_dnewK rfl)))), ?_⟩
    refine ⟨_, rfl, _, rfl, p, _, dx, _, rfl, hp, T.cl_Memory, T.n_Memory_pages, (by show 0 < 1000; decide), ?_⟩
    rw [in_Memory_0 (x0 := .int n) (x1 := .int m) (x2 := .non)]
    refine ⟨_, rfl, _, rfl, p, _, dx, _, rfl, upd_same, T.cl_Memory, T.n_Memory_most, (by show 1 < 1000; decide), ?_⟩
    rw [in_Memory_1 (x0 := .int n) (x1 := .int m) (x2 := .non)]
    intro d hd
    have nd : p ≠ d := fun e => by subst e; rw [upd_same] at hd; cases hd
    refine ⟨_, rfl, p, _, dx, _, rfl, (upd_ne nd).trans upd_same, T.cl_Memory, T.n_Memory_cells, (by show 2 < 1000; decide), ?_⟩
    rw [in_Memory_2 (x0 := .int n) (x1 := .int m) (x2 := .ref d)]
    have mm : p ∈ [p] := List.mem_singleton.mpr rfl
    refine q _ ⟨dx, d, upd_same⟩ ?_
    refine SameBut.upd (fun b o nb e => ?_) mm
    have hb : b ≠ p := fun z => nb (List.mem_singleton.mpr z)
    have hbd : b ≠ d := fun z => by
      subst z
      rw [upd_ne hb, upd_ne hb, e] at hd; cases hd
    rw [upd_ne hbd, upd_ne hb, upd_ne hb]; exact e
theorem c_Global___init__ (D : DefI K (Cs.C_Global cs) "Global.__init__" s_Global___init__ ["self", "kind", "mutable", "value"]) (T : Tp w K mg cs)  : CalI P w K mg base CX0 (Cs.C_Global cs) 1 (sp_Global___init__ K cs) := by
  refine D.ok sc_Global___init__ (fun vs H Q E h => ?_) (fun f cdv A outer s H vs Q E hr h => ?_)
  · obtain ⟨p, dx, k, b, v, rfl, _⟩ := h; rfl
  · obtain ⟨p, dx, k, b, v, rfl, hp, q⟩ := h
    refine ⟨_, (pss_cons (ps_fld (pv 0) (pv 1) rfl)
      (pss_cons (ps_fld (pv 0) (pv 2) rfl)
      (pss_one (ps_fld (pv 0) (pv 3) rfl)))), ?_⟩
    refine ⟨_, rfl, _, rfl, p, _, dx, _, rfl, hp, T.cl_Global, T.n_Global_kind, (by show 0 < 1000; decide), ?_⟩
    rw [in_Global_0 (x0 := .str k) (x1 := .bl b) (x2 := .int v)]
    refine ⟨_, rfl, _, rfl, p, _, dx, _, rfl, upd_same, T.cl_Global, T.n_Global_mutable, (by show 1 < 1000; decide), ?_⟩
    rw [in_Global_1 (x0 := .str k) (x1 := .bl b) (x2 := .int v)]
    refine ⟨_, rfl, _, rfl, p, _, dx, _, rfl, upd_same, T.cl_Global, T.n_Global_value, (by show 2 < 1000; decide), ?_⟩
    rw [in_Global_2 (x0 := .str k) (x1 := .bl b) (x2 := .int v)]
    have mm : p ∈ [p] := List.mem_singleton.mpr rfl
    exact q _ ⟨dx, upd_same⟩ ((((SameBut.refl _).upd mm).upd mm).upd mm)
theorem c_Store___init__ (D : DefI K (Cs.C_Store cs) "Store.__init__" s_Store___init__ ["self"]) (T : Tp w K mg cs)  : CalI P w K mg base CX0 (Cs.C_Store cs) 1 (sp_Store___init__ K cs) := by
  refine D.ok sc_Store___init__ (fun vs H Q E h => ?_) (fun f cdv A outer s H vs Q E hr h => ?_)
  · obtain ⟨p, dx, rfl, _⟩ := h; rfl
  · obtain ⟨p, dx, rfl, hp, q⟩ := h
    refine ⟨_, (pss_cons (ps_fld (pv 0) (pe_lst pa_nil) rfl)
      (pss_cons (ps_fld (pv 0) (pe_lst pa_nil) rfl)
      (pss_cons (ps_fld (pv 0) (pe_lst pa_nil) rfl)
      (pss_cons (ps_fld (pv 0) (pe_lst pa_nil) rfl)
      (pss_cons (ps_fld (pv 0) (pe_lst pa_nil) rfl)
      (pss_one (ps_fld (pv 0) (pe_lst pa_nil) rfl))))))), ?_⟩
    have b0 : SameBut [p] H H := SameBut.refl _
    walk_at "go"
    intro l1 h1
    obtain ⟨b1, p1, m1, n1, z1, f1⟩ := sto_step (o' := .ins cs.C_Store dx [(("functions" : Str), V.ref l1)]) b0 hp (fun _ z => nomatch z) h1
    refine ⟨_, rfl, p, _, dx, _, rfl, (upd_ne n1).trans hp, T.cl_Store, T.n_Store_functions, (by show 0 < 1000; decide), ?_⟩
    rw [in_Store_0 (x0 := .ref l1) (x1 := .non) (x2 := .non) (x3 := .non) (x4 := .non) (x5 := .non)]
    generalize upd (upd H l1 (.lst [])) p _ = G1 at b1 p1 m1 ⊢
    clear f1
    walk_at "go"
    intro l2 h2
    obtain ⟨b2, p2, m2, n2, z2, f2⟩ := sto_step (o' := .ins cs.C_Store dx [(("functions" : Str), V.ref l1), (("tables" : Str), V.ref l2)]) b1 p1 (fun _ z => nomatch z) h2
    refine ⟨_, rfl, p, _, dx, _, rfl, (upd_ne n2).trans p1, T.cl_Store, T.n_Store_tables, (by show 1 < 1000; decide), ?_⟩
    rw [in_Store_1 (x0 := .ref l1) (x1 := .ref l2) (x2 := .non) (x3 := .non) (x4 := .non) (x5 := .non)]
    have g1_2 := f2 _ _ m1
    generalize upd (upd G1 l2 (.lst [])) p _ = G2 at b2 p2 m2 g1_2 ⊢
    clear f2
    walk_at "go"
    intro l3 h3
    obtain ⟨b3, p3, m3, n3, z3, f3⟩ := sto_step (o' := .ins cs.C_Store dx [(("functions" : Str), V.ref l1), (("tables" : Str), V.ref l2), (("memories" : Str), V.ref l3)]) b2 p2 (fun _ z => nomatch z) h3
    refine ⟨_, rfl, p, _, dx, _, rfl, (upd_ne n3).trans p2, T.cl_Store, T.n_Store_memories, (by show 2 < 1000; decide), ?_⟩
    rw [in_Store_2 (x0 := .ref l1) (x1 := .ref l2) (x2 := .ref l3) (x3 := .non) (x4 := .non) (x5 := .non)]
    have g1_3 := f3 _ _ g1_2.1
    have g2_3 := f3 _ _ m2
    generalize upd (upd G2 l3 (.lst [])) p _ = G3 at b3 p3 m3 g1_3 g2_3 ⊢
    clear f3
    walk_at "go"
    intro l4 h4
    obtain ⟨b4, p4, m4, n4, z4, f4⟩ := sto_step (o' := .ins cs.C_Store dx [(("functions" : Str), V.ref l1), (("tables" : Str), V.ref l2), (("memories" : Str), V.ref l3), (("variables" : Str), V.ref l4)]) b3 p3 (fun _ z => nomatch z) h4
    refine ⟨_, rfl, p, _, dx, _, rfl, (upd_ne n4).trans p3, T.cl_Store, T.n_Store_variables, (by show 3 < 1000; decide), ?_⟩
    rw [in_Store_3 (x0 := .ref l1) (x1 := .ref l2) (x2 := .ref l3) (x3 := .ref l4) (x4 := .non) (x5 := .non)]
    have g1_4 := f4 _ _ g1_3.1
    have g2_4 := f4 _ _ g2_3.1
    have g3_4 := f4 _ _ m3
    generalize upd (upd G3 l4 (.lst [])) p _ = G4 at b4 p4 m4 g1_4 g2_4 g3_4 ⊢
    clear f4
    walk_at "go"
    intro l5 h5
    obtain ⟨b5, p5, m5, n5, z5, f5⟩ := sto_step (o' := .ins cs.C_Store dx [(("functions" : Str), V.ref l1), (("tables" : Str), V.ref l2), (("memories" : Str), V.ref l3), (("variables" : Str), V.ref l4), (("tags" : Str), V.ref l5)]) b4 p4 (fun _ z => nomatch z) h5
    refine ⟨_, rfl, p, _, dx, _, rfl, (upd_ne n5).trans p4, T.cl_Store, T.n_Store_tags, (by show 4 < 1000; decide), ?_⟩
    rw [in_Store_4 (x0 := .ref l1) (x1 := .ref l2) (x2 := .ref l3) (x3 := .ref l4) (x4 := .ref l5) (x5 := .non)]
    have g1_5 := f5 _ _ g1_4.1
    have g2_5 := f5 _ _ g2_4.1
    have g3_5 := f5 _ _ g3_4.1
    have g4_5 := f5 _ _ m4
    generalize upd (upd G4 l5 (.lst [])) p _ = G5 at b5 p5 m5 g1_5 g2_5 g3_5 g4_5 ⊢
    clear f5
    walk_at "go"
    intro l6 h6
    obtain ⟨b6, p6, m6, n6, z6, f6⟩ := sto_step (o' := .ins cs.C_Store dx [(("functions" : Str), V.ref l1), (("tables" : Str), V.ref l2), (("memories" : Str), V.ref l3), (("variables" : Str), V.ref l4), (("tags" : Str), V.ref l5), (("instances" : Str), V.ref l6)]) b5 p5 (fun _ z => nomatch z) h6
    refine ⟨_, rfl, p, _, dx, _, rfl, (upd_ne n6).trans p5, T.cl_Store, T.n_Store_instances, (by show 5 < 1000; decide), ?_⟩
    rw [in_Store_5 (x0 := .ref l1) (x1 := .ref l2) (x2 := .ref l3) (x3 := .ref l4) (x4 := .ref l5) (x5 := .ref l6)]
    have g1_6 := f6 _ _ g1_5.1
    have g2_6 := f6 _ _ g2_5.1
    have g3_6 := f6 _ _ g3_5.1
    have g4_6 := f6 _ _ g4_5.1
    have g5_6 := f6 _ _ m5
    generalize upd (upd G5 l6 (.lst [])) p _ = G6 at b6 p6 m6 g1_6 g2_6 g3_6 g4_6 g5_6 ⊢
    clear f6
    have hl : ∀ l ∈ [l1, l2, l3, l4, l5, l6], H l = none ∧ G6 l = some (.lst []) := fun l hm => by
      simp only [List.mem_cons, List.not_mem_nil, or_false] at hm
      rcases hm with rfl | rfl | rfl | rfl | rfl | rfl
      · exact ⟨z1, g1_6.1⟩
      · exact ⟨z2, g2_6.1⟩
      · exact ⟨z3, g3_6.1⟩
      · exact ⟨z4, g4_6.1⟩
      · exact ⟨z5, g5_6.1⟩
      · exact ⟨z6, m6⟩
    refine q l1 l2 l3 l4 l5 l6 G6 ⟨dx, p6⟩ hl ?_ b6
    simp only [List.nodup_cons, List.mem_cons, List.not_mem_nil, or_false, not_or, List.nodup_nil, and_true, not_false_eq_true]
    exact ⟨⟨g1_2.2, g1_3.2, g1_4.2, g1_5.2, g1_6.2⟩, ⟨g2_3.2, g2_4.2, g2_5.2, g2_6.2⟩, ⟨g3_4.2, g3_5.2, g3_6.2⟩, ⟨g4_5.2, g4_6.2⟩, g5_6.2⟩
theorem c_items_of (D : Def K mg "items_of" s_items_of ["owner", "kind"]) (T : Tp w K mg cs)  : Cal P w K mg base CX0 1 "items_of" (sp_items_of K cs) := by
  refine D.ok sc_items_of (fun vs H Q E h => ?_) (fun f cdv A outer s H vs Q E hr h => ?_)
  · obtain ⟨p, lf, lt, lm, lv, lg, li, z, rfl, _⟩ := h; rfl
  · obtain ⟨p, lf, lt, lm, lv, lg, li, z, rfl, ⟨dx, hp⟩, q⟩ := h
    refine ⟨_, (pss_cons (ps_if (pt_cmpR op_eq (pv 1) pe_str (by first | rfl | exact nomark _)) (pss_one (ps_ret (pe_fld (pv 0) rfl))) pss_nil)
      (pss_cons (ps_if (pt_cmpR op_eq (pv 1) pe_str (by first | rfl | exact nomark _)) (pss_one (ps_ret (pe_fld (pv 0) rfl))) pss_nil)
      (pss_cons (ps_if (pt_cmpR op_eq (pv 1) pe_str (by first | rfl | exact nomark _)) (pss_one (ps_ret (pe_fld (pv 0) rfl))) pss_nil)
      (pss_cons (ps_if (pt_cmpR op_eq (pv 1) pe_str (by first | rfl | exact nomark _)) (pss_one (ps_ret (pe_fld (pv 0) rfl))) pss_nil)
      (pss_cons (ps_if (pt_cmpR op_eq (pv 1) pe_str (by first | rfl | exact nomark _)) (pss_one (ps_ret (pe_fld (pv 0) rfl))) pss_nil)
      (pss_one (ps_ret (pe_fld (pv 0) rfl)))))))), ?_⟩
    unfold Sto.kind at q
    walk_at "go"
    by_cases h1 : z = "func"
    · refine ifS h1 ?_
      rw [if_pos h1] at q
      exact ⟨_, rfl, p, _, dx, _, _, rfl, hp, T.cl_Store, T.n_Store_functions, lk_Store_functions, q⟩
    refine ifSN h1 ?_
    rw [if_neg h1] at q
    walk_at "go"
    by_cases h2 : z = "table"
    · refine ifS h2 ?_
      rw [if_pos h2] at q
      exact ⟨_, rfl, p, _, dx, _, _, rfl, hp, T.cl_Store, T.n_Store_tables, lk_Store_tables, q⟩
    refine ifSN h2 ?_
    rw [if_neg h2] at q
    walk_at "go"
    by_cases h3 : z = "memory"
    · refine ifS h3 ?_
      rw [if_pos h3] at q
      exact ⟨_, rfl, p, _, dx, _, _, rfl, hp, T.cl_Store, T.n_Store_memories, lk_Store_memories, q⟩
    refine ifSN h3 ?_
    rw [if_neg h3] at q
    walk_at "go"
    by_cases h4 : z = "global"
    · refine ifS h4 ?_
      rw [if_pos h4] at q
      exact ⟨_, rfl, p, _, dx, _, _, rfl, hp, T.cl_Store, T.n_Store_variables, lk_Store_variables, q⟩
    refine ifSN h4 ?_
    rw [if_neg h4] at q
    walk_at "go"
    by_cases h5 : z = "tag"
    · refine ifS h5 ?_
      rw [if_pos h5] at q
      exact ⟨_, rfl, p, _, dx, _, _, rfl, hp, T.cl_Store, T.n_Store_tags, lk_Store_tags, q⟩
    refine ifSN h5 ?_
    rw [if_neg h5] at q
    exact ⟨_, rfl, p, _, dx, _, _, rfl, hp, T.cl_Store, T.n_Store_instances, lk_Store_instances, q⟩
theorem c_host_functions (D : Def K mg "host_functions" s_host_functions ["store"]) (T : Tp w K mg cs)  : Cal P w K mg base CX0 1 "host_functions" (sp_host_functions K cs) := by
  refine D.ok sc_host_functions (fun vs H Q E h => ?_) (fun f cdv A outer s H vs Q E hr h => ?_)
  · obtain ⟨p, lf, lt, lm, lv, lg, li, rfl, _⟩ := h; rfl
  · obtain ⟨p, lf, lt, lm, lv, lg, li, rfl, ⟨dx, hp⟩, hf, q⟩ := h
    refine ⟨_, (pss_one (ps_ret (pe_lc (own := [("func", 1), ("row", 2)]) (g := gTup K 2 (gCons (gName 1) (gCons (gName 2) gNil))) (tt := _) (by rfl) sc_host_functions.nd (pi_enum (by rfl) T.m_enumerate (pa_cons (pe_fld (pv 0) rfl) pa_nil)) (blkOk_by (own := [("func", 1), ("row", 2)]) (N := ["store", "func", "row"]) (sc := defScope s_host_functions) (by decide +kernel)) (fun _ _ _ _ _ => (pg_tup (by rfl) (pgs_cons (pg_name (i := 1) sc_host_functions.nd rfl (by first | exact Or.inl rfl | exact Or.inr rfl)) (pgs_cons (pg_name (i := 2) sc_host_functions.nd rfl (by first | exact Or.inl rfl | exact Or.inr rfl)) pgs_nil)))) (fun _ _ _ _ _ => pts_one (pt_cmpR op_eq (pe_ix ix_tupB (pv 2) pe_int (fun _ _ => rfl)) pe_str (by first | rfl | exact nomark _))) (fun _ _ _ _ _ => (pv 1))))), ?_⟩
    refine ⟨_, rfl, p, _, dx, _, _, rfl, hp, T.cl_Store, T.n_Store_functions, lk_Store_functions, ?_⟩
    refine ⟨lf, _, rfl, SqL.of hf, fun D2 hD => ?_⟩
    refine ⟨fun i m G => i = 0 ∧ G = upd H D2 (.lst []), ⟨0, rfl, rfl⟩, ?_⟩
    rintro i m _ ⟨rfl, rfl⟩
    have sD : Same H (upd H D2 (.lst [])) := Same.new hD
    exact .inl ⟨⟨[], SqL.of (sD _ _ hf), Nat.le_refl _⟩, q D2 _ sD hD upd_same⟩
theorem c_check_signature (D : Def K mg "check_signature" s_check_signature ["params", "results"]) (T : Tp w K mg cs)  : Cal P w K mg base (L2.CX P w) 3 "check_signature" (sp_check_signature K cs) := by
  refine D.okX sc_check_signature (fun vs H Q E h => ?_) (fun f cdv A outer s H vs Q E hr h => ?_)
  · obtain ⟨p, r, ps, rs, rfl, _⟩ := h; rfl
  · obtain ⟨p, r, ps, rs, rfl, hp, hr2, lp, lr, q⟩ := h
    refine ⟨_, (pss_one (ps_if (pt_cmpR op_gt (pe_callB (call_max2 rfl) (by rfl) T.m_max (by decide +kernel) (pa_cons (pe_callB call_len_seq (by rfl) T.m_len PySem.boot_len (pa_cons (pv 0) pa_nil)) (pa_cons (pe_callB call_len_seq (by rfl) T.m_len PySem.boot_len (pa_cons (pv 1) pa_nil)) pa_nil))) (pe_gint (by rfl) T.i_MOST_KINDS) (by first | rfl | exact nomark _)) (pss_one (ps_raise rfl (takes_of rfl rfl rfl rfl) (pmk_oex T.e_LimitReached.T T.iC_LimitReached T.tI_LimitReached (in_LimitReached T) (hr.mono (by decide)) T.b_LimitReached .nil pass0 (by rfl) T.e_LimitReached.g (pa_cons pe_str pa_nil)))) pss_nil)), ?_⟩
    walk_at "go"
    refine ⟨p, ps, rfl, .inr (SqT.of hp), ?_⟩
    walk_at "go"
    refine ⟨r, rs, rfl, .inr (SqT.of hr2), ?_⟩
    walk_at "go"
    rw [show decide ((16 : Int) < if (rs.length : Int) > ps.length then (rs.length : Int) else ps.length) = false from decide_eq_false (by split <;> omega)]
    walk_at "go"
    exact q
theorem c_add_host (D : Def K mg "add_host" s_add_host ["store", "params", "results"]) (T : Tp w K mg cs) (c_check_signature : Cal P w K mg base (L2.CX P w) 3 "check_signature" (sp_check_signature K cs)) (c_host_functions : Cal P w K mg base CX0 1 "host_functions" (sp_host_functions K cs)) : Cal P w K mg base (L2.CX P w) 4 "add_host" (sp_add_host K cs) := by
  refine D.okX sc_add_host (fun vs H Q E h => ?_) (fun f cdv A outer s H vs Q E hr h => ?_)
  · obtain ⟨s0, p, r, lf, lt, lm, lv, lg, li, ps, rs, rfl, _⟩ := h; rfl
  · obtain ⟨s0, p, r, lf, lt, lm, lv, lg, li, ps, rs, rfl, ⟨dx, hs⟩, hf, hp, hr2, lp, lr, q⟩ := h
    refine ⟨_, (pss_cons (ps_expr (pe_cE c_check_signature hr (by decide) (passes_call (takes_of rfl rfl rfl rfl) (fun _ _ _ _ h => h)) (by rfl) (pa_cons (pv 1) (pa_cons (pv 2) pa_nil))))
      (pss_cons (ps_set (i := 3) sc_add_host.nd rfl (by first | exact Or.inl rfl | exact Or.inr rfl) (pe_callB call_len_seq (by rfl) T.m_len PySem.boot_len (pa_cons (pe_c c_host_functions hr (by decide) (by rfl) (pa_cons (pv 0) pa_nil)) pa_nil)))
      (pss_cons (ps_if (pt_cmpR op_ge (pv 3) (pe_gint (by rfl) T.i_MOST_HOSTS) (by first | rfl | exact nomark _)) (pss_one (ps_raise rfl (takes_of rfl rfl rfl rfl) (pmk_oex T.e_LimitReached.T T.iC_LimitReached T.tI_LimitReached (in_LimitReached T) (hr.mono (by decide)) T.b_LimitReached .nil pass0 (by rfl) T.e_LimitReached.g (pa_cons pe_str pa_nil)))) pss_nil)
      (pss_cons (ps_expr (pe_bm PySem.F.plainAttrs_list PySem.F.slot_list_append PySem.F.type_list_append mt_append (pe_fld (pv 0) rfl) (pa_cons (pe_tup (pa_cons pe_str (pa_cons (pv 3) (pa_cons (pe_tup (pa_cons (pv 1) (pa_cons (pv 2) pa_nil))) pa_nil)))) pa_nil)))
      (pss_one (ps_ret (pe_op op_sub (pe_callB call_len_seq (by rfl) T.m_len PySem.boot_len (pa_cons (pe_fld (pv 0) rfl) pa_nil)) pe_int))))))), ?_⟩
    walk_at "go"
    refine ⟨p, r, ps, rs, rfl, hp, hr2, lp, lr, ?_⟩
    walk_at "go"
    refine ⟨s0, lf, lt, lm, lv, lg, li, rfl, ⟨dx, hs⟩, hf, fun a1 H1 s1 ha1 k1 => ?_⟩
    walk_at "go"
    refine ⟨a1, [], rfl, .inl (SqL.of k1), ?_⟩
    walk_at "go"
    have hs1 := s1 _ _ hs
    have hf1 := s1 _ _ hf
    refine ⟨s0, _, dx, _, _, rfl, hs1, T.cl_Store, T.n_Store_functions, lk_Store_functions, .inl ⟨rfl, _, SqL.of hf1⟩, ?_⟩
    walk_at "go"
    intro t ht
    generalize x2 : upd H1 t _ = H2
    obtain ⟨s2, k2⟩ := newO ht x2
    clear x2
    walk_at "go"
    intro F hF
    generalize x3 : upd H2 F _ = H3
    obtain ⟨s3, k3⟩ := newO hF x3
    clear x3
    have s23 := s2.trans s3
    have hf3 := s23 _ _ hf1
    have hs3 := s23 _ _ hs1
    have nst : s0 ≠ lf := ne_lst hs3 hf3 (fun _ z => nomatch z)
    have nF : F ≠ lf := ne_lst k3 hf3 (fun _ z => nomatch z)
    have nt : t ≠ lf := ne_lst (s3 _ _ k2) hf3 (fun _ z => nomatch z)
    refine ⟨_, _, _, rfl, rfl, hf3, (by show 0 < sizeLine; decide), ?_⟩
    generalize x4 : upd H3 lf _ = H4
    have b4 : SameBut [lf] H H4 := by subst x4; exact (Same.but (s1.trans s23)).upd (List.mem_singleton.mpr rfl)
    have k4 : H4 lf = some (.lst [.ref F]) := by subst x4; exact upd_same
    have kF : H4 F = some (.tup [.str "host", .int 0, .ref t]) := by subst x4; rw [upd_ne nF]; exact k3
    have kt : H4 t = some (.tup [.ref p, .ref r]) := by subst x4; rw [upd_ne nt]; exact s3 _ _ k2
    have ks : H4 s0 = some (.ins cs.C_Store dx (fs_Store (.ref lf) (.ref lt) (.ref lm) (.ref lv) (.ref lg) (.ref li))) := by subst x4; rw [upd_ne nst]; exact hs3
    clear x4
    walk_at "go"
    refine ⟨s0, _, dx, _, _, rfl, ks, T.cl_Store, T.n_Store_functions, lk_Store_functions, ?_⟩
    refine ⟨lf, _, rfl, .inl (SqL.of k4), ?_⟩
    walk_at "go"
    exact q F t H4 b4 k4 kF kt
theorem c_size_fits (D : Def K mg "size_fits" s_size_fits ["size", "most", "limit"]) (T : Tp w K mg cs)  : Cal P w K mg base CX0 1 "size_fits" (sp_size_fits K cs) := by
  refine D.ok sc_size_fits (fun vs H Q E h => ?_) (fun f cdv A outer s H vs Q E hr h => ?_)
  · obtain ⟨size, most, least, L, g, rfl, _⟩ := h; rfl
  · obtain ⟨size, most, least, L, g, rfl, hL, q⟩ := h
    refine ⟨_, (pss_cons (ps_asg (pv 2) (pg_tup (by rfl) (pgs_cons (pg_name (i := 3) sc_size_fits.nd rfl (by first | exact Or.inl rfl | exact Or.inr rfl)) (pgs_cons (pg_name (i := 4) sc_size_fits.nd rfl (by first | exact Or.inl rfl | exact Or.inr rfl)) pgs_nil))))
      (pss_one (ps_ret (pe_and (pe_cmpR op_ge (pv 0) (pv 3) (by first | rfl | exact nomark _)) (pe_one (pe_or (pe_cmpR op_isN (pv 4) pe_non (by first | rfl | exact nomark _)) (pe_one (pe_cmpR op_le (pv 1) (pv 4) (by first | rfl | exact nomark _))))))))), ?_⟩
    refine ⟨_, rfl, L, _, rfl, hL, rfl, ?_⟩
    walk_at "go"
    cases g with
    | none =>
      unfold Lim.fits at q
      refine ite2 (fun c => ?_) (fun c => ?_)
      · rw [c] at q
        walk_at "go"
        exact q
      · rw [Bool.eq_false_iff.mpr c] at q
        exact q
    | some n =>
      unfold Lim.fits at q
      refine ite2 (fun c => ?_) (fun c => ?_)
      · rw [c] at q
        walk_at "go"
        exact q
      · rw [Bool.eq_false_iff.mpr c] at q
        exact q
theorem c_Module___init__ (D : DefK K (Cs.C_Module cs) "Module.__init__" s_Module___init__ (kws_Module cs)) (T : Tp w K mg cs)  : CalK P w K mg base CX0 (Cs.C_Module cs) 1 (sp_Module___init__ K cs) ["signatures"] (fun vs zs => vs ++ (zs ++ (ms_Module cs).map (·.2))) := by
  refine D.ok sc_Module___init__ ["signatures"] (ms_Module cs) (List.cons_ne_nil _ _) (sub_Module cs) chain_Module (fun vs H Q E h => ?_) (fun f cdv A outer s H vs Q E hr h => ?_)
  · obtain ⟨p, dx, x0, rfl, _⟩ := h; rfl
  · obtain ⟨p, dx, x0, rfl, hp, q⟩ := h
    refine ⟨_, (pss_cons (ps_fld (pv 0) (pv 1) rfl)
      (pss_cons (ps_fld (pv 0) (pv 2) rfl)
      (pss_cons (ps_fld (pv 0) (pv 3) rfl)
      (pss_cons (ps_fld (pv 0) (pv 4) rfl)
      (pss_cons (ps_fld (pv 0) (pv 5) rfl)
      (pss_cons (ps_fld (pv 0) (pv 6) rfl)
      (pss_cons (ps_fld (pv 0) (pv 7) rfl)
      (pss_cons (ps_fld (pv 0) (pv 8) rfl)
      (pss_cons (ps_fld (pv 0) (pv 9) rfl)
      (pss_cons (ps_fld (pv 0) (pv 10) rfl)
      (pss_one (ps_fld (pv 0) (pv 11) rfl)))))))))))), ?_⟩
    refine ⟨_, rfl, _, rfl, p, _, dx, _, rfl, hp, T.cl_Module, T.n_Module_signatures, (by show 0 < 1000; decide), ?_⟩
    rw [in_Module_0 (x0 := x0) (x1 := .ref cs.e_Module_imports) (x2 := .ref cs.e_Module_functions) (x3 := .ref cs.e_Module_tables) (x4 := .ref cs.e_Module_memories) (x5 := .ref cs.e_Module_tags) (x6 := .ref cs.e_Module_variables) (x7 := .ref cs.e_Module_exports) (x8 := .non) (x9 := .ref cs.e_Module_table_segments) (x10 := .ref cs.e_Module_memory_segments)]
    refine ⟨_, rfl, _, rfl, p, _, dx, _, rfl, upd_same, T.cl_Module, T.n_Module_imports, (by show 1 < 1000; decide), ?_⟩
    rw [in_Module_1 (x0 := x0) (x1 := .ref cs.e_Module_imports) (x2 := .ref cs.e_Module_functions) (x3 := .ref cs.e_Module_tables) (x4 := .ref cs.e_Module_memories) (x5 := .ref cs.e_Module_tags) (x6 := .ref cs.e_Module_variables) (x7 := .ref cs.e_Module_exports) (x8 := .non) (x9 := .ref cs.e_Module_table_segments) (x10 := .ref cs.e_Module_memory_segments)]
    refine ⟨_, rfl, _, rfl, p, _, dx, _, rfl, upd_same, T.cl_Module, T.n_Module_functions, (by show 2 < 1000; decide), ?_⟩
    rw [in_Module_2 (x0 := x0) (x1 := .ref cs.e_Module_imports) (x2 := .ref cs.e_Module_functions) (x3 := .ref cs.e_Module_tables) (x4 := .ref cs.e_Module_memories) (x5 := .ref cs.e_Module_tags) (x6 := .ref cs.e_Module_variables) (x7 := .ref cs.e_Module_exports) (x8 := .non) (x9 := .ref cs.e_Module_table_segments) (x10 := .ref cs.e_Module_memory_segments)]
    refine ⟨_, rfl, _, rfl, p, _, dx, _, rfl, upd_same, T.cl_Module, T.n_Module_tables, (by show 3 < 1000; decide), ?_⟩
    rw [in_Module_3 (x0 := x0) (x1 := .ref cs.e_Module_imports) (x2 := .ref cs.e_Module_functions) (x3 := .ref cs.e_Module_tables) (x4 := .ref cs.e_Module_memories) (x5 := .ref cs.e_Module_tags) (x6 := .ref cs.e_Module_variables) (x7 := .ref cs.e_Module_exports) (x8 := .non) (x9 := .ref cs.e_Module_table_segments) (x10 := .ref cs.e_Module_memory_segments)]
    refine ⟨_, rfl, _, rfl, p, _, dx, _, rfl, upd_same, T.cl_Module, T.n_Module_memories, (by show 4 < 1000; decide), ?_⟩
    rw [in_Module_4 (x0 := x0) (x1 := .ref cs.e_Module_imports) (x2 := .ref cs.e_Module_functions) (x3 := .ref cs.e_Module_tables) (x4 := .ref cs.e_Module_memories) (x5 := .ref cs.e_Module_tags) (x6 := .ref cs.e_Module_variables) (x7 := .ref cs.e_Module_exports) (x8 := .non) (x9 := .ref cs.e_Module_table_segments) (x10 := .ref cs.e_Module_memory_segments)]
    refine ⟨_, rfl, _, rfl, p, _, dx, _, rfl, upd_same, T.cl_Module, T.n_Module_tags, (by show 5 < 1000; decide), ?_⟩
    rw [in_Module_5 (x0 := x0) (x1 := .ref cs.e_Module_imports) (x2 := .ref cs.e_Module_functions) (x3 := .ref cs.e_Module_tables) (x4 := .ref cs.e_Module_memories) (x5 := .ref cs.e_Module_tags) (x6 := .ref cs.e_Module_variables) (x7 := .ref cs.e_Module_exports) (x8 := .non) (x9 := .ref cs.e_Module_table_segments) (x10 := .ref cs.e_Module_memory_segments)]
    refine ⟨_, rfl, _, rfl, p, _, dx, _, rfl, upd_same, T.cl_Module, T.n_Module_variables, (by show 6 < 1000; decide), ?_⟩
    rw [in_Module_6 (x0 := x0) (x1 := .ref cs.e_Module_imports) (x2 := .ref cs.e_Module_functions) (x3 := .ref cs.e_Module_tables) (x4 := .ref cs.e_Module_memories) (x5 := .ref cs.e_Module_tags) (x6 := .ref cs.e_Module_variables) (x7 := .ref cs.e_Module_exports) (x8 := .non) (x9 := .ref cs.e_Module_table_segments) (x10 := .ref cs.e_Module_memory_segments)]
    refine ⟨_, rfl, _, rfl, p, _, dx, _, rfl, upd_same, T.cl_Module, T.n_Module_exports, (by show 7 < 1000; decide), ?_⟩
    rw [in_Module_7 (x0 := x0) (x1 := .ref cs.e_Module_imports) (x2 := .ref cs.e_Module_functions) (x3 := .ref cs.e_Module_tables) (x4 := .ref cs.e_Module_memories) (x5 := .ref cs.e_Module_tags) (x6 := .ref cs.e_Module_variables) (x7 := .ref cs.e_Module_exports) (x8 := .non) (x9 := .ref cs.e_Module_table_segments) (x10 := .ref cs.e_Module_memory_segments)]
    refine ⟨_, rfl, _, rfl, p, _, dx, _, rfl, upd_same, T.cl_Module, T.n_Module_start, (by show 8 < 1000; decide), ?_⟩
    rw [in_Module_8 (x0 := x0) (x1 := .ref cs.e_Module_imports) (x2 := .ref cs.e_Module_functions) (x3 := .ref cs.e_Module_tables) (x4 := .ref cs.e_Module_memories) (x5 := .ref cs.e_Module_tags) (x6 := .ref cs.e_Module_variables) (x7 := .ref cs.e_Module_exports) (x8 := .non) (x9 := .ref cs.e_Module_table_segments) (x10 := .ref cs.e_Module_memory_segments)]
    refine ⟨_, rfl, _, rfl, p, _, dx, _, rfl, upd_same, T.cl_Module, T.n_Module_table_segments, (by show 9 < 1000; decide), ?_⟩
    rw [in_Module_9 (x0 := x0) (x1 := .ref cs.e_Module_imports) (x2 := .ref cs.e_Module_functions) (x3 := .ref cs.e_Module_tables) (x4 := .ref cs.e_Module_memories) (x5 := .ref cs.e_Module_tags) (x6 := .ref cs.e_Module_variables) (x7 := .ref cs.e_Module_exports) (x8 := .non) (x9 := .ref cs.e_Module_table_segments) (x10 := .ref cs.e_Module_memory_segments)]
    refine ⟨_, rfl, _, rfl, p, _, dx, _, rfl, upd_same, T.cl_Module, T.n_Module_memory_segments, (by show 10 < 1000; decide), ?_⟩
    rw [in_Module_10 (x0 := x0) (x1 := .ref cs.e_Module_imports) (x2 := .ref cs.e_Module_functions) (x3 := .ref cs.e_Module_tables) (x4 := .ref cs.e_Module_memories) (x5 := .ref cs.e_Module_tags) (x6 := .ref cs.e_Module_variables) (x7 := .ref cs.e_Module_exports) (x8 := .non) (x9 := .ref cs.e_Module_table_segments) (x10 := .ref cs.e_Module_memory_segments)]
    have mm : p ∈ [p] := List.mem_singleton.mpr rfl
    exact q _ ⟨dx, _, _, _, _, _, _, _, _, _, _, upd_same⟩ ((((((((((((SameBut.refl _).upd mm).upd mm).upd mm).upd mm).upd mm).upd mm).upd mm).upd mm).upd mm).upd mm).upd mm)
theorem c_item_fits (D : Def K mg "item_fits" s_item_fits ["store", "module", "row", "number"]) (T : Tp w K mg cs) (c_size_fits : Cal P w K mg base CX0 1 "size_fits" (sp_size_fits K cs)) (c_items_of : Cal P w K mg base CX0 1 "items_of" (sp_items_of K cs)) : Cal P w K mg base CX0 2 "item_fits" (sp_item_fits K cs) := by
  refine D.ok sc_item_fits (fun vs H Q E h => ?_) (fun f cdv A outer s H vs Q E hr h => ?_)
  · obtain ⟨st, mo, row, lf, lt, lm, lv, lg, li, sg, x0, x1, wv, kind, TS, rfl, _⟩ := h; rfl
  · obtain ⟨st, mo, row, lf, lt, lm, lv, lg, li, sg, x0, x1, wv, kind, TS, rfl, ⟨dx, hst⟩, hrow, ⟨dm, m1, m2, m3, m4, m5, m6, m7, m8, m9, m10, hmo⟩, hsg, hc⟩ := h
    refine ⟨_, (pss_cons (ps_asg (pe_slice sl_tup (pv 2) (po_some pe_int) po_none) (pg_tup (by rfl) (pgs_cons (pg_name (i := 4) sc_item_fits.nd rfl (by first | exact Or.inl rfl | exact Or.inr rfl)) (pgs_cons (pg_name (i := 5) sc_item_fits.nd rfl (by first | exact Or.inl rfl | exact Or.inr rfl)) pgs_nil))))
      (pss_cons (ps_set (i := 6) sc_item_fits.nd rfl (by first | exact Or.inl rfl | exact Or.inr rfl) (pe_ix ix_list (pe_c c_items_of hr (by decide) (by rfl) (pa_cons (pv 0) (pa_cons (pv 4) pa_nil))) (pv 3) (fun _ _ => rfl)))
      (pss_cons (ps_if (pt_cmpR op_eq (pv 4) pe_str (by first | rfl | exact nomark _)) (pss_one (ps_ret (pe_cmpR (op_eqD (hu64 hr)) (pe_ix ix_tup (pv 6) (pe_un un_neg pe_int) (fun _ _ => rfl)) (pe_ix ix_tup (pe_fld (pv 1) rfl) (pv 5) (fun _ _ => rfl)) (by first | rfl | exact nomark _)))) pss_nil)
      (pss_cons (ps_if (pt_cmpR op_eq (pv 4) pe_str (by first | rfl | exact nomark _)) (pss_one (ps_ret (pe_cmpR (op_eqD (hu64 hr)) (pv 6) (pe_ix ix_tup (pe_fld (pv 1) rfl) (pv 5) (fun _ _ => rfl)) (by first | rfl | exact nomark _)))) pss_nil)
      (pss_cons (ps_if (pt_cmpR op_eq (pv 4) pe_str (by first | rfl | exact nomark _)) (pss_one (ps_ret (pe_cmpR (op_eqD (hu64 hr)) (pe_tup (pa_cons (pe_fld (pv 6) rfl) (pa_cons (pe_fld (pv 6) rfl) pa_nil))) (pv 5) (by first | rfl | exact nomark _)))) pss_nil)
      (pss_cons (ps_if (pt_cmpR op_eq (pv 4) pe_str (by first | rfl | exact nomark _)) (pss_one (ps_ret (pe_c c_size_fits hr (by decide) (by rfl) (pa_cons (pe_callB call_len_seq (by rfl) T.m_len PySem.boot_len (pa_cons (pe_fld (pv 6) rfl) pa_nil)) (pa_cons (pe_fld (pv 6) rfl) (pa_cons (pv 5) pa_nil)))))) pss_nil)
      (pss_one (ps_ret (pe_c c_size_fits hr (by decide) (by rfl) (pa_cons (pe_fld (pv 6) rfl) (pa_cons (pe_fld (pv 6) rfl) (pa_cons (pv 5) pa_nil)))))))))))), ?_⟩
    refine ⟨_, rfl, _, rfl, row, _, rfl, SqT.of hrow, (by show ¬ (HT.sIx 4 0 (some 2) = 0 ∧ HT.sIx 4 4 none = 4); decide), fun p1 hp1 => ?_⟩
    generalize x1' : upd H p1 _ = H1
    obtain ⟨s1, k1⟩ := newO hp1 x1'
    clear x1'
    have k1' : H1 p1 = some (.tup [.str kind, wv]) := k1
    refine ⟨p1, _, rfl, SqT.of k1', rfl, ?_⟩
    walk_at "go"
    have hst1 := s1 _ _ hst
    refine ⟨st, lf, lt, lm, lv, lg, li, kind, rfl, ⟨dx, hst1⟩, ?_⟩
    rcases hc with ⟨rfl, k, F, t, Tk, s, sk, rfl, kl, kF, kt, hT, kT, o1, o2, q⟩ | ⟨rfl, k, t, Tk, s, sk, rfl, kl, kt, hT, kT, o1, o2, q⟩ | ⟨rfl, W, G, z, y, b, c, v, rfl, kW, kl, ⟨dg, kG⟩, o1, o2, q⟩ | ⟨rfl, L, t, least, n, m, g, rfl, kL, kl, ⟨dt, e, xs, kt, ke, hl⟩, q⟩ | ⟨rfl, L, t, least, n, m, g, rfl, kL, kl, ⟨dt, d, kt⟩, q⟩
    · walk_at "go"
      rw [show Sto.kind lf lt lm lv lg li "func" = lf from if_pos rfl]
      refine ⟨_, _, _, _, rfl, rfl, SqL.of (s1 _ _ kl), rfl, ?_⟩
      walk_at "go"
      refine ⟨F, _, _, _, rfl, rfl, SqT.of (s1 _ _ kF), rfl, ?_⟩
      walk_at "go"
      refine ⟨mo, _, dm, _, _, rfl, s1 _ _ hmo, T.cl_Module, T.n_Module_signatures, lk_Module_signatures, ?_⟩
      walk_at "go"
      refine ⟨sg, _, _, _, rfl, rfl, SqT.of (s1 _ _ hsg), atI_nat hT, ?_⟩
      exact eqD_sg (kt.mono s1) (kT.mono s1) o1 o2 (q _ s1)
    · walk_at "go"
      rw [show Sto.kind lf lt lm lv lg li "tag" = lg by unfold Sto.kind; rw [if_neg (by decide), if_neg (by decide), if_neg (by decide), if_neg (by decide), if_pos rfl]]
      refine ⟨_, _, _, _, rfl, rfl, SqL.of (s1 _ _ kl), rfl, ?_⟩
      walk_at "go"
      refine ⟨mo, _, dm, _, _, rfl, s1 _ _ hmo, T.cl_Module, T.n_Module_signatures, lk_Module_signatures, ?_⟩
      walk_at "go"
      refine ⟨sg, _, _, _, rfl, rfl, SqT.of (s1 _ _ hsg), atI_nat hT, ?_⟩
      exact eqD_sg (kt.mono s1) (kT.mono s1) o1 o2 (q _ s1)
    · walk_at "go"
      rw [show Sto.kind lf lt lm lv lg li "global" = lv by unfold Sto.kind; rw [if_neg (by decide), if_neg (by decide), if_neg (by decide), if_pos rfl]]
      refine ⟨_, _, _, _, rfl, rfl, SqL.of (s1 _ _ kl), rfl, ?_⟩
      walk_at "go"
      refine ⟨G, _, dg, _, _, rfl, s1 _ _ kG, T.cl_Global, T.n_Global_kind, lk_Global_kind, ?_⟩
      walk_at "go"
      refine ⟨G, _, dg, _, _, rfl, s1 _ _ kG, T.cl_Global, T.n_Global_mutable, lk_Global_mutable, ?_⟩
      walk_at "go"
      intro p2 hp2
      generalize x2 : upd H1 p2 _ = H2
      obtain ⟨s2, k2⟩ := newO hp2 x2
      walk_at "go"
      exact eqD_KB (SqT.of k2) (SqT.of (s2 _ _ (s1 _ _ kW))) o1 o2 (q _ (s1.trans s2))
    · walk_at "go"
      rw [show Sto.kind lf lt lm lv lg li "table" = lt by unfold Sto.kind; rw [if_neg (by decide), if_pos rfl]]
      refine ⟨_, _, _, _, rfl, rfl, SqL.of (s1 _ _ kl), rfl, ?_⟩
      walk_at "go"
      refine ⟨t, _, dt, _, _, rfl, s1 _ _ kt, T.cl_Table, T.n_Table_entries, lk_Table_entries, ?_⟩
      refine ⟨e, _, rfl, .inl (SqL.of (s1 _ _ ke)), ?_⟩
      rw [hl]
      refine ⟨_, rfl, t, _, dt, _, _, rfl, s1 _ _ kt, T.cl_Table, T.n_Table_most, lk_Table_most, ?_⟩
      refine ⟨_, rfl, ?_⟩
      exact ⟨n, m, least, L, g, rfl, SqT.of (s1 _ _ kL), q _ s1⟩
    · walk_at "go"
      rw [show Sto.kind lf lt lm lv lg li "memory" = lm by unfold Sto.kind; rw [if_neg (by decide), if_neg (by decide), if_pos rfl]]
      refine ⟨_, _, _, _, rfl, rfl, SqL.of (s1 _ _ kl), rfl, ?_⟩
      walk_at "go"
      refine ⟨t, _, dt, _, _, rfl, s1 _ _ kt, T.cl_Memory, T.n_Memory_pages, lk_Memory_pages, ?_⟩
      refine ⟨_, rfl, t, _, dt, _, _, rfl, s1 _ _ kt, T.cl_Memory, T.n_Memory_most, lk_Memory_most, ?_⟩
      refine ⟨_, rfl, ?_⟩
      exact ⟨n, m, least, L, g, rfl, SqT.of (s1 _ _ kL), q _ s1⟩
end

def sp__law_says (K : PySem.W.Frag) (cs : Cs) : Sp := fun vs H Q _ => ∃ b : Bool, vs = [.bl b, .bl b] ∧ Q (.bl true) H
def sp__law_signature (K : PySem.W.Frag) (cs : Cs) : Sp := fun vs H Q _ => ∃ (a : Addr) (ts : List Int) (p : Int), vs = [.ref a, .int p] ∧ SqL K H a (ts.map V.int) ∧ (0 ≤ p ∧ p ≤ 900000) ∧ ∀ t s H', Sg H' t s → OkS s → Same H H' → Q (.ref t) H'
def sp__law_near (K : PySem.W.Frag) (cs : Cs) : Sp := fun vs H Q _ => ∃ (a : Addr) (ts : List Int) (p n : Int), vs = [.ref a, .int p, .int n] ∧ SqL K H a (ts.map V.int) ∧ (0 ≤ p ∧ p ≤ 900000) ∧ ∀ v H', Same H H' → Q (.int v) H'
def sp__law_limit (K : PySem.W.Frag) (cs : Cs) : Sp := fun vs H Q _ => ∃ (a : Addr) (ts : List Int) (p n m : Int), vs = [.ref a, .int p, .int n, .int m] ∧ SqL K H a (ts.map V.int) ∧ (0 ≤ p ∧ p ≤ 800000) ∧ ∀ (L : Addr) (least : Int) (g : Lim) H', H' L = some (.tup [.int least, g.v]) → Same H H' → Q (.ref L) H'
def sp__law_limit_fits (K : PySem.W.Frag) (cs : Cs) : Sp := sp_size_fits K cs
def sp_lawK (K : PySem.W.Frag) : Sp := fun vs H Q _ => ∃ (a : Addr) (ns : List Int), vs = [.ref a] ∧ SqL K H a (ns.map V.int) ∧ ns.length ≤ 63 ∧ ∀ H', Q (.bl true) H'
abbrev sp_law (K : PySem.W.Frag) (_ : Cs) : Sp := sp_lawK K
theorem Sg.updL {H : Hp} {D t : Addr} {xs : List V} {o : HO} {s : Shape} (hD : H D = some (.lst xs)) (h : Sg H t s) : Sg (upd H D o) t s := by
  obtain ⟨p, r, h1, h2, h3⟩ := h
  exact ⟨p, r, (upd_ne (ne_lst h1 hD fun _ z => nomatch z)).trans h1, (upd_ne (ne_lst h2 hD fun _ z => nomatch z)).trans h2, (upd_ne (ne_lst h3 hD fun _ z => nomatch z)).trans h3⟩
/-- a comprehension over a range, whose items are drawn, and stand in the heap -/
theorem lc_anyH {n j : Nat} {te : TE} {σ : L2.St} {H1 : Hp} {D : Addr} {Qd : Hp → Prop} (φ : Hp → V → Prop) (hD : H1 D = none) (hn : n ≤ 100000) (mono : ∀ H H' v, Same H H' → φ H v → φ H' v) (hu : ∀ H xs o v, H D = some (.lst xs) → φ H v → φ (upd H D o) v)
    (hs : ∀ i H Q, i < n → Same H1 H → (∀ y H', φ H' y → Same H H' → Q y H') → te ((σ.set j none).set j (some (.int i))) H Q) (hd : ∀ xs H, xs.length = n → (∀ x ∈ xs, φ H x) → Same H1 H → H D = some (.lst xs) → Qd H) :
    ∃ W : Nat → Nat → Hp → Prop, (∃ m, W 0 m (upd H1 D (.lst []))) ∧ ∀ i m H, W i m H →
      ((Itr 0 n).stop i H ∧ Qd H) ∨ ((Itr 0 n).go i H ∧ ∃ Nx : Hp → Prop, (∀ H', Nx H' → ∃ m', m' < m ∧ W (i + 1) m' H') ∧ ∀ x H', (Itr 0 n).yld i H x H' → gName j x (wipe σ [j]) H' fun σ2 H2 => wipe σ2 [j] = wipe σ [j] ∧ tYes σ2 H2 fun b H3 =>
        if b = true then te σ2 H3 fun y H4 => ∃ acc, H4 D = some (.lst acc) ∧ acc.length < sizeLine ∧ Nx (upd H4 D (.lst (acc ++ [y]))) else Nx H3) := by
  refine lc_range (fun i H => Same H1 H ∧ ∃ xs : List V, xs.length = i ∧ (∀ x ∈ xs, φ H x) ∧ H D = some (.lst xs)) ⟨Same.new hD, [], rfl, (fun _ z => nomatch z), upd_same⟩ (fun i H hi h => ?_) (fun H h => by obtain ⟨s, xs, hl, hx, hk⟩ := h; exact hd xs H hl hx s hk)
  rw [Int.zero_add]
  obtain ⟨s, xs, hl, hx, hk⟩ := h
  refine ⟨by show (((σ.set j none).set j (some (V.int i))).set j none) = σ.set j none; rw [List.set_set, List.set_set], ?_⟩
  simp only [tYes, if_true]
  refine hs i H _ hi s fun y H' hy s' => ?_
  refine ⟨_, s' _ _ hk, small64' (by omega), fun b o e => ?_, xs ++ [y], by rw [List.length_append, hl]; rfl, fun x hx' => ?_, upd_same⟩
  · have nb : b ≠ D := fun z => by rw [z, hD] at e; cases e
    rw [upd_ne nb]; exact s' _ _ (s _ _ e)
  · rcases List.mem_append.mp hx' with z | z
    · exact hu _ _ _ _ (s' _ _ hk) (mono _ _ _ s' (hx x z))
    · rw [List.mem_singleton] at z; rw [z]; exact hu _ _ _ _ (s' _ _ hk) hy
/-- three signatures in a list -/
def T3 (G : Hp) (D : Addr) (t : Nat → Addr) (s : Nat → Shape) : Prop := G D = some (.lst [.ref (t 0), .ref (t 1), .ref (t 2)]) ∧ ∀ k, k < 3 → Sg G (t k) (s k) ∧ OkS (s k)
theorem T3.mono {H H' : Hp} {D : Addr} {t : Nat → Addr} {s : Nat → Shape} (e : Same H H') (h : T3 H D t s) : T3 H' D t s := ⟨e _ _ h.1, fun k hk => ⟨(h.2 k hk).1.mono e, (h.2 k hk).2⟩⟩
theorem T3.at {t : Nat → Addr} {k : Nat} (h : k < 3) : atI [V.ref (t 0), V.ref (t 1), V.ref (t 2)] (k : Int) = some (.ref (t k)) := by
  match k, h with
  | 0, _ => rfl
  | 1, _ => rfl
  | 2, _ => rfl
/-- all that the law's loops look at -/
structure Stt (cs : Cs) (ts : List Int) (G : Hp) (p O D st mo mi lf lt lm lv lg li F tf tb e me gl sg : Addr) (t : Nat → Addr) (s : Nat → Shape) (d0 d1 : Nat) (size most pages greatest : Int) (z : Str) (b : Bool) (xe : List V) : Prop where
  tape : G p = some (.lst (ts.map V.int))
  own : G O = some (.lst [.int (d0 : Int), .int (d1 : Int)])
  l0 : d0 < 3
  l1 : d1 < 3
  t3 : T3 G D t s
  sto : Sto cs G st lf lt lm lv lg li
  kf : G lf = some (.lst [.ref F])
  kF : G F = some (.tup [.str "host", .int 0, .ref tf])
  sF : Sg G tf (s d0)
  kg : G lg = some (.lst [.ref (t d1)])
  kt : G lt = some (.lst [.ref tb])
  tab : Tab cs G tb size most
  km : G lm = some (.lst [.ref me])
  mem : Mem cs G me pages greatest
  kv : G lv = some (.lst [.ref gl])
  glo : Glo cs G gl z b 5
  mi : G mi = some (.tup [.str z, .bl b])
  mo : Modu cs G mo (.ref sg)
  ksg : G sg = some (.tup [.ref (t 0), .ref (t 1), .ref (t 2)])
  zk : z = "i32" ∨ z = "i64"
theorem Tab.mono {cs : Cs} {H H' : Hp} {p : Addr} {n m : Int} (e : Same H H') (h : Tab cs H p n m) : Tab cs H' p n m := by
  obtain ⟨dx, d, xs, h1, h2, h3⟩ := h
  exact ⟨dx, d, xs, e _ _ h1, e _ _ h2, h3⟩
theorem Mem.mono {cs : Cs} {H H' : Hp} {p : Addr} {n m : Int} (e : Same H H') (h : Mem cs H p n m) : Mem cs H' p n m := by
  obtain ⟨dx, d, h1⟩ := h
  exact ⟨dx, d, e _ _ h1⟩
theorem Glo.mono {cs : Cs} {H H' : Hp} {p : Addr} {k : Str} {b : Bool} {v : Int} (e : Same H H') (h : Glo cs H p k b v) : Glo cs H' p k b v := by
  obtain ⟨dx, h1⟩ := h
  exact ⟨dx, e _ _ h1⟩
theorem Sto.mono {cs : Cs} {H H' : Hp} {p lf lt lm lv lg li : Addr} (e : Same H H') (h : Sto cs H p lf lt lm lv lg li) : Sto cs H' p lf lt lm lv lg li := by
  obtain ⟨dx, h1⟩ := h
  exact ⟨dx, e _ _ h1⟩
theorem Modu.mono {cs : Cs} {H H' : Hp} {p : Addr} {x : V} (e : Same H H') (h : Modu cs H p x) : Modu cs H' p x := by
  obtain ⟨dx, m1, m2, m3, m4, m5, m6, m7, m8, m9, m10, h1⟩ := h
  exact ⟨dx, m1, m2, m3, m4, m5, m6, m7, m8, m9, m10, e _ _ h1⟩
theorem Stt.mono {cs : Cs} {ts : List Int} {G G' : Hp} {p O D st mo mi lf lt lm lv lg li F tf tb e me gl sg : Addr} {t : Nat → Addr} {s : Nat → Shape} {d0 d1 : Nat} {size most pages greatest : Int} {z : Str} {b : Bool} {xe : List V} (m : Same G G')
    (h : Stt cs ts G p O D st mo mi lf lt lm lv lg li F tf tb e me gl sg t s d0 d1 size most pages greatest z b xe) : Stt cs ts G' p O D st mo mi lf lt lm lv lg li F tf tb e me gl sg t s d0 d1 size most pages greatest z b xe :=
  ⟨m _ _ h.tape, m _ _ h.own, h.l0, h.l1, h.t3.mono m, h.sto.mono m, m _ _ h.kf, m _ _ h.kF, h.sF.mono m, m _ _ h.kg, m _ _ h.kt, h.tab.mono m, m _ _ h.km, h.mem.mono m, m _ _ h.kv, h.glo.mono m, m _ _ h.mi, h.mo.mono m, m _ _ h.ksg, h.zk⟩
theorem nm {a l : Addr} (h : a ≠ l) : a ∉ [l] := fun z => h (List.mem_singleton.mp z)
def kindsS : List Str := ["i32", "i64"]
def nearL : List Int := [0, 0, 0, 1, -1, 200, -200]
theorem kinds_at {v : Int} (h0 : 0 ≤ v) (h1 : v < 2) : ∃ z : Str, atI (kindsS.map V.str) v = some (.str z) ∧ (z = "i32" ∨ z = "i64") := by
  obtain ⟨k, rfl⟩ := Int.eq_ofNat_of_zero_le h0
  match k, h1 with
  | 0, _ => exact ⟨"i32", rfl, .inl rfl⟩
  | 1, _ => exact ⟨"i64", rfl, .inr rfl⟩
  | n + 2, h => exact absurd h (by omega)
section
variable {P : Program} {w : World} {K : PySem.W.Frag} {mg : Str → Option Value} {base : Heap} {cs : Cs}
theorem c__law_says (D : Def K mg "_law_says" s__law_says ["actual", "due"]) (T : Tp w K mg cs)  : Cal P w K mg base CX0 1 "_law_says" (sp__law_says K cs) := by
  refine D.ok sc__law_says (fun vs H Q E h => ?_) (fun f cdv A outer s H vs Q E hr h => ?_)
  · obtain ⟨b, rfl, _⟩ := h; rfl
  · obtain ⟨b, rfl, q⟩ := h
    refine ⟨_, (pss_one (ps_ret (pe_and (pe_callB call_isi (by rfl) T.m_isinstance (by decide +kernel) (pa_cons (pv 0) (pa_cons (pe_bltn (v := .ty "bool") (u := .type "bool") (by rfl) T.m_bool (by decide +kernel) rfl) pa_nil))) (pe_one (pe_cmpR op_eq (pv 0) (pv 1) (by first | rfl | exact nomark _)))))), ?_⟩
    walk_at "go"
    refine ⟨_, .ty _, _, _, true, rfl, .ty _, .base (.bl _), kit_ty (by decide +kernel), ?_⟩
    walk_at "go"
    rw [show decide (V.bl b = V.bl b) = true from decide_eq_true rfl]
    exact q
theorem c__law_signature (D : Def K mg "_law_signature" s__law_signature ["tape", "at"]) (T : Tp w K mg cs) (c__law_draw : Cal P w K mg base CX0 1 "_law_draw" (sp__law_draw K cs)) : Cal P w K mg base CX0 2 "_law_signature" (sp__law_signature K cs) := by
  refine D.ok sc__law_signature (fun vs H Q E h => ?_) (fun f cdv A outer s H vs Q E hr h => ?_)
  · obtain ⟨a, ts, p, rfl, _⟩ := h; rfl
  · obtain ⟨a, ts, p, rfl, hS, ⟨hp0, hp⟩, q⟩ := h
    refine ⟨_, (pss_cons (ps_setLc (i := 2) (own := [("k", 4)]) (g := gName 4) (tt := tYes) (by rfl) sc__law_signature.nd rfl rfl (sw_true rfl rfl rfl (by decide +kernel)) (pi_range1 (by rfl) T.m_range (pa_cons pe_int pa_nil)) (blkOk_by (own := [("k", 4)]) (N := ["tape", "at", "kinds", "params", "k"]) (sc := defScope s__law_signature) (by decide +kernel)) (fun _ _ _ _ _ => (pg_name (i := 4) sc__law_signature.nd rfl (by first | exact Or.inl rfl | exact Or.inr rfl))) (fun _ _ _ _ _ => pts_nil) (fun _ _ _ _ _ => (pe_ix ix_listB (pe_lst (pa_cons pe_str (pa_cons pe_str pa_nil))) (pe_c c__law_draw hr (by decide) (by rfl) (pa_cons (pv 0) (pa_cons (pe_op op_add (pe_op op_add (pv 1) pe_int) (pv 4)) (pa_cons pe_int pa_nil)))) (fun _ _ => rfl))))
      (pss_cons (ps_set (i := 3) sc__law_signature.nd rfl (by first | exact Or.inl rfl | exact Or.inr rfl) (pe_c c__law_draw hr (by decide) (by rfl) (pa_cons (pv 0) (pa_cons (pv 1) (pa_cons pe_int pa_nil)))))
      (pss_one (ps_ret (pe_tup (pa_cons (pe_callTy call_tuple_of (by rfl) T.m_tuple (by decide +kernel) (pa_cons (pe_slice sl_list (pv 2) po_none (po_some (pv 3))) pa_nil)) (pa_cons (pe_callTy call_tuple_of (by rfl) T.m_tuple (by decide +kernel) (pa_cons (pe_slice sl_list (pv 2) (po_some (pv 3)) (po_some (pe_op op_add (pv 3) (pe_c c__law_draw hr (by decide) (by rfl) (pa_cons (pv 0) (pa_cons (pe_op op_add (pv 1) pe_int) (pa_cons pe_int pa_nil))))))) pa_nil)) pa_nil))))))), ?_⟩
    walk_at "go"
    intro D hD
    refine lc_anyR (n := 6) (j := 4) (fun v => ∃ z : Str, v = .str z ∧ (z = "i32" ∨ z = "i64")) hD (by omega) (fun i H2 Q2 hi s2 q2 => ?_) (fun zx H2 hl2 hzx s2 k2 => ?_)
    · walk_at "go"
      intro e1 h1
      generalize x1 : upd H2 e1 _ = H3
      obtain ⟨s3, k3⟩ : Same H2 H3 ∧ H3 e1 = some (.lst (kindsS.map V.str)) := by subst x1; exact ⟨Same.new h1, upd_same⟩
      clear x1
      walk_at "go"
      refine ⟨a, ts, p + 2 + (i : Int), 2, rfl, (s2.trans s3).seq hS, ⟨by omega, by omega⟩, by decide, fun v v0 v1 => ?_⟩
      obtain ⟨z, ez, hz⟩ := kinds_at v0 v1
      refine ⟨e1, _, _, _, rfl, rfl, SqL.of k3, ez, ?_⟩
      exact q2 _ _ ⟨z, rfl, hz⟩ s3
    obtain ⟨zs, rfl, hz⟩ := strs_of hzx
    rw [List.length_map] at hl2
    walk_at "go"
    refine ⟨a, ts, p, 4, rfl, s2.seq hS, ⟨by omega, by omega⟩, by decide, fun m m0 m1 => ?_⟩
    obtain ⟨m, rfl⟩ := Int.eq_ofNat_of_zero_le m0
    walk_at "go"
    refine ⟨D, _, rfl, SqL.of k2, fun p1 hp1 => ?_⟩
    rw [cut_to, ← List.map_take]
    generalize x3 : upd H2 p1 _ = H3
    obtain ⟨s3, k3⟩ := newO hp1 x3
    clear x3
    refine ⟨p1, _, rfl, .inl ⟨SqL.of k3, fun t1 ht1 => ?_⟩⟩
    generalize x4 : upd H3 t1 _ = H4
    obtain ⟨s4, k4⟩ := newO ht1 x4
    clear x4
    have s34 := s3.trans s4
    walk_at "go"
    refine ⟨a, ts, p + 1, 3, rfl, (s2.trans s34).seq hS, ⟨by omega, by omega⟩, by decide, fun d d0 d1 => ?_⟩
    obtain ⟨d, rfl⟩ := Int.eq_ofNat_of_zero_le d0
    walk_at "go"
    refine ⟨D, _, rfl, SqL.of (s34 _ _ k2), fun p2 hp2 => ?_⟩
    have em : (m : Int) + (d : Int) = ((m + d : Nat) : Int) := by omega
    rw [em, cut_mid _ (show m ≤ m + d by omega), ← List.map_take, ← List.map_drop]
    generalize x5 : upd H4 p2 _ = H5
    obtain ⟨s5, k5⟩ := newO hp2 x5
    clear x5
    refine ⟨p2, _, rfl, .inl ⟨SqL.of k5, fun t2 ht2 => ?_⟩⟩
    generalize x6 : upd H5 t2 _ = H6
    obtain ⟨s6, k6⟩ := newO ht2 x6
    clear x6
    walk_at "go"
    intro t ht
    have s7 : Same H6 (upd H6 t (.tup [.ref t1, .ref t2])) := Same.new ht
    refine q t (zs.take m, (zs.take (m + d)).drop m) _ ⟨t1, t2, upd_same, s7 _ _ (s6 _ _ (s5 _ _ k4)), s7 _ _ k6⟩ ⟨fun y hy => hz y (List.mem_of_mem_take hy), fun y hy => hz y (List.mem_of_mem_take (List.mem_of_mem_drop hy)), ?_, ?_⟩ (s2.trans (s34.trans (s5.trans (s6.trans s7))))
    · show (zs.take m).length ≤ 6
      rw [List.length_take]; omega
    · show ((zs.take (m + d)).drop m).length ≤ 6
      rw [List.length_drop, List.length_take]; omega
theorem c__law_near (D : Def K mg "_law_near" s__law_near ["tape", "at", "size"]) (T : Tp w K mg cs) (c__law_draw : Cal P w K mg base CX0 1 "_law_draw" (sp__law_draw K cs)) : Cal P w K mg base CX0 2 "_law_near" (sp__law_near K cs) := by
  refine D.ok sc__law_near (fun vs H Q E h => ?_) (fun f cdv A outer s H vs Q E hr h => ?_)
  · obtain ⟨a, ts, p, n, rfl, _⟩ := h; rfl
  · obtain ⟨a, ts, p, n, rfl, hS, ⟨hp0, hp⟩, q⟩ := h
    refine ⟨_, (pss_one (ps_ret (pe_callB (call_max2 rfl) (by rfl) T.m_max (by decide +kernel) (pa_cons pe_int (pa_cons (pe_op op_add (pv 2) (pe_ix ix_list (pe_lst (pa_cons pe_int (pa_cons pe_int (pa_cons pe_int (pa_cons pe_int (pa_cons (pe_un un_neg pe_int) (pa_cons pe_int (pa_cons (pe_un un_neg pe_int) pa_nil)))))))) (pe_c c__law_draw hr (by decide) (by rfl) (pa_cons (pv 0) (pa_cons (pv 1) (pa_cons pe_int pa_nil)))) (fun _ _ => rfl))) pa_nil))))), ?_⟩
    walk_at "go"
    intro e1 h1
    generalize x1 : upd H e1 _ = H1
    obtain ⟨s1, k1⟩ : Same H H1 ∧ H1 e1 = some (.lst (nearL.map V.int)) := by subst x1; exact ⟨Same.new h1, upd_same⟩
    clear x1
    walk_at "go"
    refine ⟨a, ts, p, 7, rfl, s1.seq hS, ⟨by omega, by omega⟩, by decide, fun v v0 v1 => ?_⟩
    obtain ⟨k, rfl⟩ := Int.eq_ofNat_of_zero_le v0
    refine ⟨e1, _, _, _, rfl, rfl, SqL.of k1, at_ints (show k < 7 by omega), ?_⟩
    walk_at "go"
    exact q _ _ s1
theorem c__law_limit (D : Def K mg "_law_limit" s__law_limit ["tape", "at", "size", "most"]) (T : Tp w K mg cs) (c__law_near : Cal P w K mg base CX0 2 "_law_near" (sp__law_near K cs)) (c__law_draw : Cal P w K mg base CX0 1 "_law_draw" (sp__law_draw K cs)) : Cal P w K mg base CX0 3 "_law_limit" (sp__law_limit K cs) := by
  refine D.ok sc__law_limit (fun vs H Q E h => ?_) (fun f cdv A outer s H vs Q E hr h => ?_)
  · obtain ⟨a, ts, p, n, m, rfl, _⟩ := h; rfl
  · obtain ⟨a, ts, p, n, m, rfl, hS, ⟨hp0, hp⟩, q⟩ := h
    refine ⟨_, (pss_cons (ps_set (i := 4) sc__law_limit.nd rfl (by first | exact Or.inl rfl | exact Or.inr rfl) (pe_c c__law_near hr (by decide) (by rfl) (pa_cons (pv 0) (pa_cons (pv 1) (pa_cons (pv 2) pa_nil)))))
      (pss_cons (ps_if (pt_cmpR op_eq (pe_c c__law_draw hr (by decide) (by rfl) (pa_cons (pv 0) (pa_cons (pe_op op_add (pv 1) pe_int) (pa_cons pe_int pa_nil)))) pe_int (by first | rfl | exact nomark _)) (pss_one (ps_ret (pe_tup (pa_cons (pv 4) (pa_cons pe_non pa_nil))))) pss_nil)
      (pss_one (ps_ret (pe_tup (pa_cons (pv 4) (pa_cons (pe_callB (call_max2 rfl) (by rfl) T.m_max (by decide +kernel) (pa_cons (pv 4) (pa_cons (pe_c c__law_near hr (by decide) (by rfl) (pa_cons (pv 0) (pa_cons (pe_op op_add (pv 1) pe_int) (pa_cons (pv 3) pa_nil)))) pa_nil))) pa_nil))))))), ?_⟩
    walk_at "go"
    refine ⟨a, ts, p, n, rfl, hS, ⟨by omega, by omega⟩, fun v1 H1 s1 => ?_⟩
    walk_at "go"
    refine ⟨a, ts, p + 1, 3, rfl, s1.seq hS, ⟨by omega, by omega⟩, by decide, fun v v0 v3 => ?_⟩
    walk_at "go"
    refine ite2 (fun c => ?_) (fun c => ?_)
    · walk_at "go"
      intro L hL
      exact q L v1 .none _ upd_same (s1.trans (Same.new hL))
    · walk_at "go"
      refine ⟨a, ts, p + 2, m, rfl, s1.seq hS, ⟨by omega, by omega⟩, fun v2 H2 s2 => ?_⟩
      walk_at "go"
      intro L hL
      exact q L v1 (.some _) _ upd_same (s1.trans (s2.trans (Same.new hL)))
theorem c__law_limit_fits (D : Def K mg "_law_limit_fits" s__law_limit_fits ["size", "most", "limit"]) (T : Tp w K mg cs)  : Cal P w K mg base CX0 1 "_law_limit_fits" (sp__law_limit_fits K cs) := by
  refine D.ok sc__law_limit_fits (fun vs H Q E h => ?_) (fun f cdv A outer s H vs Q E hr h => ?_)
  · obtain ⟨size, most, least, L, g, rfl, _⟩ := h; rfl
  · obtain ⟨size, most, least, L, g, rfl, hL, q⟩ := h
    refine ⟨_, (pss_cons (ps_if (pt_cmpR op_lt (pv 0) (pe_ix ix_tup (pv 2) pe_int (fun _ _ => rfl)) (by first | rfl | exact nomark _)) (pss_one (ps_ret pe_bl)) pss_nil)
      (pss_one (ps_ret (pe_or (pe_cmpR op_isN (pe_ix ix_tup (pv 2) pe_int (fun _ _ => rfl)) pe_non (by first | rfl | exact nomark _)) (pe_one (pe_cmpR op_le (pv 1) (pe_ix ix_tup (pv 2) pe_int (fun _ _ => rfl)) (by first | rfl | exact nomark _))))))), ?_⟩
    walk_at "go"
    refine ite2 (fun c => ?_) (fun c => ?_)
    · have c' : size < least := of_decide_eq_true c
      walk_at "go"
      have e : g.fits size most least = false := by
        cases g with
        | none => exact decide_eq_false (by omega)
        | some n => show (decide (least ≤ size) && decide (most ≤ n)) = false; rw [decide_eq_false (by omega)]; rfl
      rw [e] at q
      exact q
    · have c' : ¬ size < least := of_decide_eq_false (Bool.eq_false_iff.mpr c)
      cases g with
      | none =>
        have e : Lim.none.fits size most least = true := decide_eq_true (by omega)
        rw [e] at q
        walk_at "go"
        exact q
      | some n =>
        have e : (Lim.some n).fits size most least = decide (most ≤ n) := by show (decide (least ≤ size) && decide (most ≤ n)) = _; rw [decide_eq_true (by omega)]; rfl
        rw [e] at q
        walk_at "go"
        exact q
theorem c_law {f : Addr} {fd : FuncData} (D : L2.Fun K "law" "law" s_law f fd) (T : Tp w K mg cs) (c__law_tape : Cal P w K mg base CX0 1 "_law_tape" (sp__law_tape K cs)) (c_Store___init__ : CalI P w K mg base CX0 (Cs.C_Store cs) 1 (sp_Store___init__ K cs)) (c_add_host : Cal P w K mg base (L2.CX P w) 4 "add_host" (sp_add_host K cs)) (c__law_draw : Cal P w K mg base CX0 1 "_law_draw" (sp__law_draw K cs)) (c_Module___init__ : CalK P w K mg base CX0 (Cs.C_Module cs) 1 (sp_Module___init__ K cs) ["signatures"] (fun vs zs => vs ++ (zs ++ (ms_Module cs).map (·.2)))) (c__law_signature : Cal P w K mg base CX0 2 "_law_signature" (sp__law_signature K cs)) (c_Table___init__ : CalI P w K mg base CX0 (Cs.C_Table cs) 1 (sp_Table___init__ K cs)) (c_Memory___init__ : CalI P w K mg base CX0 (Cs.C_Memory cs) 1 (sp_Memory___init__ K cs)) (c_Global___init__ : CalI P w K mg base CX0 (Cs.C_Global cs) 1 (sp_Global___init__ K cs)) (c__law_limit : Cal P w K mg base CX0 3 "_law_limit" (sp__law_limit K cs)) (c__law_limit_fits : Cal P w K mg base CX0 1 "_law_limit_fits" (sp__law_limit_fits K cs)) (c__law_says : Cal P w K mg base CX0 1 "_law_says" (sp__law_says K cs)) (c_item_fits : Cal P w K mg base CX0 2 "item_fits" (sp_item_fits K cs)) : FnOk P w K mg base CX0 5 f fd ["script"] (sp_law K cs) := by
  refine D.ok sc_law (fun vs H Q E h => ?_) (fun cdv A outer s H vs Q E hr h => ?_)
  · obtain ⟨a, ns, rfl, _⟩ := h; rfl
  · obtain ⟨a, ns0, rfl, hS, hlen, q⟩ := h
    refine ⟨_, (pss_cons (ps_set (i := 1) sc_law.nd rfl (by first | exact Or.inl rfl | exact Or.inr rfl) (pe_c c__law_tape hr (by decide) (by rfl) (pa_cons (pv 0) pa_nil)))
      (pss_cons (ps_setLc (i := 2) (own := [("k", 12)]) (g := gName 12) (tt := tYes) (by rfl) sc_law.nd rfl rfl (sw_true rfl rfl rfl (by decide +kernel)) (pi_range1 (by rfl) T.m_range (pa_cons pe_int pa_nil)) (blkOk_by (own := [("k", 12)]) (N := ["script", "tape", "shapes", "own", "store", "func", "size", "most", "pages", "greatest", "mine", "module", "k", "kind", "j", "limit", "due", "mutable"]) (sc := defScope s_law) (by decide +kernel)) (fun _ _ _ _ _ => (pg_name (i := 12) sc_law.nd rfl (by first | exact Or.inl rfl | exact Or.inr rfl))) (fun _ _ _ _ _ => pts_nil) (fun _ _ _ _ _ => (pe_c c__law_signature hr (by decide) (by rfl) (pa_cons (pv 1) (pa_cons (pe_op op_mul pe_int (pv 12)) pa_nil)))))
      (C8.pss_cut (ps_if (pt_cmpR op_eq (pe_c c__law_draw hr (by decide) (by rfl) (pa_cons (pv 1) (pa_cons pe_int (pa_cons pe_int pa_nil)))) pe_int (by first | rfl | exact nomark _)) (pss_one (ps_asg (pe_ix ix_list (pv 2) pe_int (fun _ _ => rfl)) (pg_sub (pv 2) pe_int set_list))) pss_nil)
      (pss_cons (ps_set (i := 3) sc_law.nd rfl (by first | exact Or.inl rfl | exact Or.inr rfl) (pe_lst (pa_cons (pe_c c__law_draw hr (by decide) (by rfl) (pa_cons (pv 1) (pa_cons pe_int (pa_cons pe_int pa_nil)))) (pa_cons (pe_c c__law_draw hr (by decide) (by rfl) (pa_cons (pv 1) (pa_cons pe_int (pa_cons pe_int pa_nil)))) pa_nil))))
      (pss_cons (ps_set (i := 4) sc_law.nd rfl (by first | exact Or.inl rfl | exact Or.inr rfl) (pe_nw0 c_Store___init__ hr (by decide) (by rfl) T.g_Store))
      (pss_cons (ps_set (i := 5) sc_law.nd rfl (by first | exact Or.inl rfl | exact Or.inr rfl) (pe_cE c_add_host hr (by decide) passL (by rfl) (pa_cons (pv 4) (pa_cons (pe_ix ix_tup (pe_ix ix_list (pv 2) (pe_ix ix_list (pv 3) pe_int (fun _ _ => rfl)) (fun _ _ => rfl)) pe_int (fun _ _ => rfl)) (pa_cons (pe_ix ix_tup (pe_ix ix_list (pv 2) (pe_ix ix_list (pv 3) pe_int (fun _ _ => rfl)) (fun _ _ => rfl)) pe_int (fun _ _ => rfl)) pa_nil)))))
      (pss_cons (ps_expr (pe_bm PySem.F.plainAttrs_list PySem.F.slot_list_append PySem.F.type_list_append mt_append (pe_fld (pv 4) rfl) (pa_cons (pe_ix ix_list (pv 2) (pe_ix ix_list (pv 3) pe_int (fun _ _ => rfl)) (fun _ _ => rfl)) pa_nil)))
      (pss_cons (ps_set (i := 6) sc_law.nd rfl (by first | exact Or.inl rfl | exact Or.inr rfl) (pe_op op_mod (pe_callTy call_int1 (by rfl) T.m_int (by decide +kernel) (pa_cons (pe_op op_add (pe_op op_mul (pe_c c__law_draw hr (by decide) (by rfl) (pa_cons (pv 1) (pa_cons pe_int (pa_cons pe_int pa_nil)))) pe_int) (pe_c c__law_draw hr (by decide) (by rfl) (pa_cons (pv 1) (pa_cons pe_int (pa_cons pe_int pa_nil))))) pa_nil)) pe_int))
      (pss_cons (ps_set (i := 7) sc_law.nd rfl (by first | exact Or.inl rfl | exact Or.inr rfl) (pe_op op_add (pv 6) (pe_c c__law_draw hr (by decide) (by rfl) (pa_cons (pv 1) (pa_cons pe_int (pa_cons (pe_op op_sub pe_int (pv 6)) pa_nil))))))
      (pss_cons (ps_expr (pe_bm PySem.F.plainAttrs_list PySem.F.slot_list_append PySem.F.type_list_append mt_append (pe_fld (pv 4) rfl) (pa_cons (pe_nw c_Table___init__ hr (by decide) (by rfl) T.g_Table (pa_cons (pv 6) (pa_cons (pv 7) pa_nil))) pa_nil)))
      (pss_cons (ps_set (i := 8) sc_law.nd rfl (by first | exact Or.inl rfl | exact Or.inr rfl) (pe_c c__law_draw hr (by decide) (by rfl) (pa_cons (pv 1) (pa_cons pe_int (pa_cons pe_int pa_nil)))))
      (pss_cons (ps_set (i := 9) sc_law.nd rfl (by first | exact Or.inl rfl | exact Or.inr rfl) (pe_op op_add (pv 8) (pe_c c__law_draw hr (by decide) (by rfl) (pa_cons (pv 1) (pa_cons pe_int (pa_cons (pe_op op_sub pe_int (pv 8)) pa_nil))))))
      (pss_cons (ps_expr (pe_bm PySem.F.plainAttrs_list PySem.F.slot_list_append PySem.F.type_list_append mt_append (pe_fld (pv 4) rfl) (pa_cons (pe_nw c_Memory___init__ hr (by decide) (by rfl) T.g_Memory (pa_cons (pv 8) (pa_cons (pv 9) pa_nil))) pa_nil)))
      (pss_cons (ps_set (i := 10) sc_law.nd rfl (by first | exact Or.inl rfl | exact Or.inr rfl) (pe_tup (pa_cons (pe_ix ix_list (pe_lst (pa_cons pe_str (pa_cons pe_str pa_nil))) (pe_c c__law_draw hr (by decide) (by rfl) (pa_cons (pv 1) (pa_cons pe_int (pa_cons pe_int pa_nil)))) (fun _ _ => rfl)) (pa_cons (pe_cmpR op_eq (pe_c c__law_draw hr (by decide) (by rfl) (pa_cons (pv 1) (pa_cons pe_int (pa_cons pe_int pa_nil)))) pe_int (by first | rfl | exact nomark _)) pa_nil))))
      (pss_cons (ps_expr (pe_bm PySem.F.plainAttrs_list PySem.F.slot_list_append PySem.F.type_list_append mt_append (pe_fld (pv 4) rfl) (pa_cons (pe_nw c_Global___init__ hr (by decide) (by rfl) T.g_Global (pa_cons (pe_ix ix_tup (pv 10) pe_int (fun _ _ => rfl)) (pa_cons (pe_ix ix_tup (pv 10) pe_int (fun _ _ => rfl)) (pa_cons pe_int pa_nil)))) pa_nil)))
      (C8.pss_cut (ps_set (i := 11) sc_law.nd rfl (by first | exact Or.inl rfl | exact Or.inr rfl) (pe_nk c_Module___init__ hr (by decide) (by rfl) T.g_Module (pk_cons (pe_callTy call_tuple_of (by rfl) T.m_tuple (by decide +kernel) (pa_cons (pv 2) pa_nil)) pk_nil)))
      (C8.pss_cut (ps_for PassesOwn.never rfl (pi_range1 (by rfl) T.m_range (pa_cons pe_int pa_nil)) (pg_name (i := 12) sc_law.nd rfl (by first | exact Or.inl rfl | exact Or.inr rfl)) (pss_one (ps_for PassesOwn.never rfl (pi_range1 (by rfl) T.m_range (pa_cons pe_int pa_nil)) (pg_name (i := 14) sc_law.nd rfl (by first | exact Or.inl rfl | exact Or.inr rfl)) (pss_cons (ps_set (i := 13) sc_law.nd rfl (by first | exact Or.inl rfl | exact Or.inr rfl) (pe_ix ix_list (pe_lst (pa_cons pe_str (pa_cons pe_str pa_nil))) (pv 14) (fun _ _ => rfl)))
      (pss_cons (ps_set (i := 16) sc_law.nd rfl (by first | exact Or.inl rfl | exact Or.inr rfl) (pe_cmpR (op_eqD (hu64 hr)) (pe_ix ix_list (pv 2) (pv 12) (fun _ _ => rfl)) (pe_ix ix_list (pv 2) (pe_ix ix_list (pv 3) (pv 14) (fun _ _ => rfl)) (fun _ _ => rfl)) (by first | rfl | exact nomark _)))
      (pss_one (ps_if (pt_not (pt_val (pe_c c__law_says hr (by decide) (by rfl) (pa_cons (pe_c c_item_fits hr (by decide) (by rfl) (pa_cons (pv 4) (pa_cons (pv 11) (pa_cons (pe_tup (pa_cons pe_str (pa_cons pe_str (pa_cons (pv 13) (pa_cons (pv 12) pa_nil))))) (pa_cons (pe_ix ix_list (pe_lst (pa_cons (pv 5) (pa_cons pe_int pa_nil))) (pv 14) (fun _ _ => rfl)) pa_nil))))) (pa_cons (pv 16) pa_nil))))) (pss_one (ps_ret pe_bl)) pss_nil)))))))
      (C8.pss_cut (ps_for PassesOwn.never rfl (pi_range1 (by rfl) T.m_range (pa_cons pe_int pa_nil)) (pg_name (i := 12) sc_law.nd rfl (by first | exact Or.inl rfl | exact Or.inr rfl)) (pss_cons (ps_set (i := 15) sc_law.nd rfl (by first | exact Or.inl rfl | exact Or.inr rfl) (pe_c c__law_limit hr (by decide) (by rfl) (pa_cons (pv 1) (pa_cons (pe_op op_add pe_int (pe_op op_mul pe_int (pv 12))) (pa_cons (pv 6) (pa_cons (pv 7) pa_nil))))))
      (pss_cons (ps_set (i := 16) sc_law.nd rfl (by first | exact Or.inl rfl | exact Or.inr rfl) (pe_c c__law_limit_fits hr (by decide) (by rfl) (pa_cons (pv 6) (pa_cons (pv 7) (pa_cons (pv 15) pa_nil)))))
      (pss_cons (ps_if (pt_not (pt_val (pe_c c__law_says hr (by decide) (by rfl) (pa_cons (pe_c c_item_fits hr (by decide) (by rfl) (pa_cons (pv 4) (pa_cons (pv 11) (pa_cons (pe_tup (pa_cons pe_str (pa_cons pe_str (pa_cons pe_str (pa_cons (pv 15) pa_nil))))) (pa_cons pe_int pa_nil))))) (pa_cons (pv 16) pa_nil))))) (pss_one (ps_ret pe_bl)) pss_nil)
      (pss_cons (ps_set (i := 15) sc_law.nd rfl (by first | exact Or.inl rfl | exact Or.inr rfl) (pe_c c__law_limit hr (by decide) (by rfl) (pa_cons (pv 1) (pa_cons (pe_op op_add pe_int (pe_op op_mul pe_int (pv 12))) (pa_cons (pv 8) (pa_cons (pv 9) pa_nil))))))
      (pss_cons (ps_set (i := 16) sc_law.nd rfl (by first | exact Or.inl rfl | exact Or.inr rfl) (pe_c c__law_limit_fits hr (by decide) (by rfl) (pa_cons (pv 8) (pa_cons (pv 9) (pa_cons (pv 15) pa_nil)))))
      (pss_one (ps_if (pt_not (pt_val (pe_c c__law_says hr (by decide) (by rfl) (pa_cons (pe_c c_item_fits hr (by decide) (by rfl) (pa_cons (pv 4) (pa_cons (pv 11) (pa_cons (pe_tup (pa_cons pe_str (pa_cons pe_str (pa_cons pe_str (pa_cons (pv 15) pa_nil))))) (pa_cons pe_int pa_nil))))) (pa_cons (pv 16) pa_nil))))) (pss_one (ps_ret pe_bl)) pss_nil))))))))
      (pss_cons (ps_for PassesOwn.never rfl (pi_list (pe_lst (pa_cons pe_str (pa_cons pe_str pa_nil)))) (pg_name (i := 13) sc_law.nd rfl (by first | exact Or.inl rfl | exact Or.inr rfl)) (pss_one (ps_for PassesOwn.never rfl (pi_list (pe_lst (pa_cons pe_bl (pa_cons pe_bl pa_nil)))) (pg_name (i := 17) sc_law.nd rfl (by first | exact Or.inl rfl | exact Or.inr rfl)) (pss_cons (ps_set (i := 16) sc_law.nd rfl (by first | exact Or.inl rfl | exact Or.inr rfl) (pe_and (pe_cmpR op_eq (pe_ix ix_tup (pv 10) pe_int (fun _ _ => rfl)) (pv 13) (by first | rfl | exact nomark _)) (pe_one (pe_cmpR (op_eqD (hu64 hr)) (pe_ix ix_tup (pv 10) pe_int (fun _ _ => rfl)) (pv 17) (by first | rfl | exact nomark _)))))
      (pss_one (ps_if (pt_not (pt_val (pe_c c__law_says hr (by decide) (by rfl) (pa_cons (pe_c c_item_fits hr (by decide) (by rfl) (pa_cons (pv 4) (pa_cons (pv 11) (pa_cons (pe_tup (pa_cons pe_str (pa_cons pe_str (pa_cons pe_str (pa_cons (pe_tup (pa_cons (pv 13) (pa_cons (pv 17) pa_nil))) pa_nil))))) (pa_cons pe_int pa_nil))))) (pa_cons (pv 16) pa_nil))))) (pss_one (ps_ret pe_bl)) pss_nil))))))
      (pss_one (ps_ret pe_bl))))))))))))))))))))), ?_⟩
    refine ⟨_, rfl, a, ns0, rfl, hS, hlen, fun ts hN hT p H1 s1 _ k1 => ?_⟩
    have hS1 : SqL K H1 p (ts.map V.int) := SqL.of k1
    walk_at "go"
    intro D hD
    refine lc_anyH (n := 3) (j := 12) (fun G v => ∃ t s, v = .ref t ∧ Sg G t s ∧ OkS s) hD (by omega) (fun G G' v m h => by obtain ⟨t, s, e, h1, h2⟩ := h; exact ⟨t, s, e, h1.mono m, h2⟩) (fun G xs o v hl h => by obtain ⟨t, s, e, h1, h2⟩ := h; exact ⟨t, s, e, h1.updL hl, h2⟩) (fun i H2 Q2 hi s2 q2 => ?_) (fun xs H2 hl2 hxs s2 k2 => ?_)
    · walk_at "go"
      refine ⟨p, ts, 8 * (i : Int), rfl, s2.seq hS1, ⟨by omega, by omega⟩, fun t s H3 h1 h2 s3 => ?_⟩
      exact q2 _ _ ⟨t, s, rfl, h1, h2⟩ s3
    have kT2 := s2 _ _ k1
    obtain ⟨t', sh', hT3⟩ : ∃ (t : Nat → Addr) (sh : Nat → Shape), T3 H2 D t sh := by
      match xs, hl2, hxs with
      | [x0, x1, x2], _, hx =>
        obtain ⟨t0, s0, rfl, a0, b0⟩ := hx x0 (by simp)
        obtain ⟨t1, s1, rfl, a1, b1⟩ := hx x1 (by simp)
        obtain ⟨t2, s2, rfl, a2, b2⟩ := hx x2 (by simp)
        refine ⟨fun k => if k = 0 then t0 else if k = 1 then t1 else t2, fun k => if k = 0 then s0 else if k = 1 then s1 else s2, k2, fun k hk => ?_⟩
        match k, hk with
        | 0, _ => exact ⟨a0, b0⟩
        | 1, _ => exact ⟨a1, b1⟩
        | 2, _ => exact ⟨a2, b2⟩
    have k1' := k1
    clear hxs k2 hl2 hS1 k1
    refine ⟨fun σ G => Same H G ∧ G p = some (.lst (ts.map V.int)) ∧ (∃ t sh, T3 G D t sh) ∧ σ = [some (.ref a), some (.ref p), some (.ref D), none, none, none, none, none, none, none, none, none, none, none, none, none, none, none], ?_, ?_⟩
    · walk_at "go"
      refine ⟨p, ts, 24, 2, rfl, SqL.of kT2, ⟨by decide, by decide⟩, by decide, fun v v0 v1 => ?_⟩
      walk_at "go"
      have sH2 := s1.trans s2
      refine ite2 (fun c => ?_) (fun c => ?_)
      · walk_at "go"
        refine ⟨D, _, _, _, rfl, rfl, SqL.of hT3.1, rfl, ?_⟩
        refine ⟨_, rfl, D, _, _, 1, rfl, rfl, hT3.1, rfl, ?_⟩
        have npD : p ≠ D := fun e => by rw [← e, k1'] at hD; cases hD
        refine ⟨fun b o e => ?_, (upd_ne npD).trans kT2, ⟨fun k => if k = 1 then t' 0 else t' k, fun k => if k = 1 then sh' 0 else sh' k, upd_same, fun k hk => ?_⟩, rfl⟩
        · have nb : b ≠ D := fun z => by rw [z, none_of s1 hD] at e; cases e
          rw [upd_ne nb]; exact sH2 _ _ e
        · by_cases h1 : k = 1
          · simp only [if_pos h1]
            exact ⟨((hT3.2 0 (by decide)).1).updL hT3.1, (hT3.2 0 (by decide)).2⟩
          · simp only [if_neg h1]
            exact ⟨((hT3.2 k hk).1).updL hT3.1, (hT3.2 k hk).2⟩
      · exact ⟨sH2, kT2, ⟨t', sh', hT3⟩, rfl⟩
    rintro _ G ⟨sG, kT, ⟨t, sh, hT⟩, rfl⟩
    clear hT3 kT2 s2 t' sh'
    walk_at "go"
    refine ⟨p, ts, 25, 3, rfl, SqL.of kT, ⟨by decide, by decide⟩, by decide, fun d0 d00 d01 => ?_⟩
    obtain ⟨d0, rfl⟩ := Int.eq_ofNat_of_zero_le d00
    walk_at "go"
    refine ⟨p, ts, 26, 3, rfl, SqL.of kT, ⟨by decide, by decide⟩, by decide, fun d1 d10 d11 => ?_⟩
    obtain ⟨d1, rfl⟩ := Int.eq_ofNat_of_zero_le d10
    walk_at "go"
    intro O hO
    generalize x3 : upd G O _ = H3
    obtain ⟨s3, k3⟩ := newO hO x3
    clear x3
    have kT3 := s3 _ _ kT
    have hT3 := hT.mono s3
    clear hT kT
    walk_at "go"
    intro st dx nst ndx nxd
    refine ⟨st, dx, rfl, upd_same, fun lf lt lm lv lg li H4 sto4 hl4 nd4 b4 => ⟨rfl, ?_⟩⟩
    have s4 := made_same nst ndx b4
    have fresh : ∀ l ∈ [lf, lt, lm, lv, lg, li], H3 l = none := fun l hl => by
      have z := (hl4 l hl).1
      by_cases e1 : l = st
      · rw [e1]; exact nst
      · by_cases e2 : l = dx
        · rw [e2]; exact ndx
        · rw [upd_ne e1, upd_ne e2] at z; exact z
    have klf := (hl4 lf (by simp)).2
    have klt := (hl4 lt (by simp)).2
    have klm := (hl4 lm (by simp)).2
    have klv := (hl4 lv (by simp)).2
    have klg := (hl4 lg (by simp)).2
    simp only [List.nodup_cons, List.mem_cons, List.not_mem_nil, or_false, not_or, List.nodup_nil, and_true, not_false_eq_true] at nd4
    obtain ⟨⟨n1, n2, n3, n4, _⟩, ⟨n5, n6, n7, _⟩, ⟨n8, n9, _⟩, ⟨n10, _⟩, _⟩ := nd4
    have kO4 := s4 _ _ k3
    have hT4 := hT3.mono s4
    have kT4 := s4 _ _ kT3
    walk_at "go"
    have e0 : d0 < 3 := by omega
    have e1 : d1 < 3 := by omega
    obtain ⟨⟨p0, r0, g1, g2, g3⟩, ok0⟩ := hT3.2 d0 e0
    refine ⟨O, _, _, _, rfl, rfl, SqL.of kO4, rfl, ?_⟩
    refine ⟨D, _, _, _, rfl, rfl, SqL.of hT4.1, T3.at e0, ?_⟩
    walk_at "go"
    refine ⟨t d0, _, _, _, rfl, rfl, SqT.of (s4 _ _ g1), rfl, ?_⟩
    walk_at "go"
    refine ⟨O, _, _, _, rfl, rfl, SqL.of kO4, rfl, ?_⟩
    refine ⟨D, _, _, _, rfl, rfl, SqL.of hT4.1, T3.at e0, ?_⟩
    walk_at "go"
    refine ⟨t d0, _, _, _, rfl, rfl, SqT.of (s4 _ _ g1), rfl, ?_⟩
    have ol0 := ok0.2.2
    refine ⟨st, p0, r0, lf, lt, lm, lv, lg, li, _, _, rfl, sto4, klf, s4 _ _ g2, s4 _ _ g3, by rw [List.length_map]; omega, by rw [List.length_map]; omega, fun F tf H5 b5 k5 kF5 kt5 => ?_⟩
    have S5 : Same H3 H5 := Same.of_but s4 b5 fun l hl => fresh l (by rw [List.mem_singleton.mp hl]; simp)
    obtain ⟨dxs, st4⟩ := sto4
    have st5 := b5 _ _ (nm (ne_lst st4 klf fun _ z => nomatch z)) st4
    have klt5 := b5 _ _ (nm (Ne.symm n1)) klt
    have klm5 := b5 _ _ (nm (Ne.symm n2)) klm
    have klv5 := b5 _ _ (nm (Ne.symm n3)) klv
    have klg5 := b5 _ _ (nm (Ne.symm n4)) klg
    clear klf klt klm klv klg b5 st4 b4 hT4 kT4 kO4 hl4
    walk_at "go"
    refine ⟨st, _, dxs, _, _, rfl, st5, T.cl_Store, T.n_Store_tags, lk_Store_tags, .inl ⟨rfl, _, SqL.of klg5⟩, ?_⟩
    walk_at "go"
    refine ⟨O, _, _, _, rfl, rfl, SqL.of (S5 _ _ k3), rfl, ?_⟩
    refine ⟨D, _, _, _, rfl, rfl, SqL.of (S5 _ _ hT3.1), T3.at e1, ?_⟩
    walk_at "go"
    refine ⟨_, _, _, rfl, rfl, klg5, (by show 0 < sizeLine; decide), ?_⟩
    generalize x6 : upd H5 lg _ = H6
    have b6 : SameBut [lg] H5 H6 := by subst x6; exact (SameBut.refl _).upd (List.mem_singleton.mpr rfl)
    have kg6 : H6 lg = some (.lst [.ref (t d1)]) := by subst x6; exact upd_same
    clear x6
    have S6 : Same H3 H6 := Same.of_but S5 b6 fun l hl => fresh l (by rw [List.mem_singleton.mp hl]; simp)
    have st6 := b6 _ _ (nm (ne_lst st5 klg5 fun _ z => nomatch z)) st5
    have klt6 := b6 _ _ (nm n7) klt5
    have klm6 := b6 _ _ (nm n9) klm5
    have klv6 := b6 _ _ (nm n10) klv5
    have kf6 := b6 _ _ (nm n4) k5
    have kF6 := b6 _ _ (nm (ne_lst kF5 klg5 fun _ z => nomatch z)) kF5
    have kt6 := b6 _ _ (nm (ne_lst kt5 klg5 fun _ z => nomatch z)) kt5
    clear k5 kF5 kt5 st5 klt5 klm5 klv5 klg5 b6 S5
    walk_at "go"
    have kT6 := S6 _ _ kT3
    refine ⟨p, ts, 27, 1000, rfl, SqL.of kT6, ⟨by decide, by decide⟩, by decide, fun u1 u10 u11 => ?_⟩
    walk_at "go"
    refine ⟨p, ts, 28, 1000, rfl, SqL.of kT6, ⟨by decide, by decide⟩, by decide, fun u2 u20 u21 => ?_⟩
    walk_at "go"
    dsimp only
    have sz0 : 0 ≤ (u1 * 7 + u2) % 257 ∧ (u1 * 7 + u2) % 257 < 257 := by omega
    generalize (u1 * 7 + u2) % 257 = size at sz0 ⊢
    walk_at "go"
    refine ⟨p, ts, 29, 257 - size, rfl, SqL.of kT6, ⟨by decide, by decide⟩, by omega, fun u3 u30 u31 => ?_⟩
    walk_at "go"
    dsimp only
    generalize size + u3 = most
    refine ⟨st, _, dxs, _, _, rfl, st6, T.cl_Store, T.n_Store_tables, lk_Store_tables, .inl ⟨rfl, _, SqL.of klt6⟩, ?_⟩
    refine ⟨_, rfl, _, rfl, ?_⟩
    intro tb dtb ntb ndtb nxtb
    refine ⟨tb, dtb, size, most, rfl, upd_same, ⟨sz0.1, by omega⟩, fun te xe H7 ktb7 kte7 hxe nte b7 => ⟨rfl, ?_⟩⟩
    have s7 := made_same ntb ndtb b7
    have nte6 : H6 te = none := by
      cases e : H6 te with
      | none => rfl
      | some o =>
        have a1 : te ≠ tb := ne_of_none e ntb
        have a2 : te ≠ dtb := ne_of_none e ndtb
        rw [upd_ne a1, upd_ne a2, e] at nte; cases nte
    walk_at "go"
    have st7 := s7 _ _ st6
    have klt7 := s7 _ _ klt6
    refine ⟨_, _, _, rfl, rfl, klt7, (by show 0 < sizeLine; decide), ?_⟩
    generalize x8 : upd H7 lt _ = H8
    have b8 : SameBut [lt] H7 H8 := by subst x8; exact (SameBut.refl _).upd (List.mem_singleton.mpr rfl)
    have kt8 : H8 lt = some (.lst [.ref tb]) := by subst x8; exact upd_same
    clear x8
    have c8 : ∀ a o, a ≠ lt → H6 a = some o → H8 a = some o := fun a o n e => b8 _ _ (nm n) (s7 _ _ e)
    have S8 : Same H3 H8 := Same.of_but (S6.trans s7) b8 fun l hl => fresh l (by rw [List.mem_singleton.mp hl]; simp)
    have st8 := b8 _ _ (nm (ne_lst st7 klt7 fun _ z => nomatch z)) st7
    have klm8 := c8 _ _ (Ne.symm n5) klm6
    have klv8 := c8 _ _ (Ne.symm n6) klv6
    have kg8 := c8 _ _ (Ne.symm n7) kg6
    have kf8 := c8 _ _ n1 kf6
    have kF8 := c8 _ _ (ne_lst kF6 klt6 fun _ z => nomatch z) kF6
    have ktf8 := c8 _ _ (ne_lst kt6 klt6 fun _ z => nomatch z) kt6
    have ktb8 := b8 _ _ (nm (ne_lst ktb7 klt7 fun _ z => nomatch z)) ktb7
    have kte8 := b8 _ _ (nm (ne_of_none klt6 nte6).symm) kte7
    have nlm : lm ≠ te := ne_of_none klm6 nte6
    have nlv : lv ≠ te := ne_of_none klv6 nte6
    clear kt6 kF6 kf6 kg6 klt6 klm6 klv6 st6 kT6 st7 klt7 ktb7 kte7 nte nte6 b7 b8 c8 s7 S6
    walk_at "go"
    have kT8 := S8 _ _ kT3
    refine ⟨p, ts, 30, 17, rfl, SqL.of kT8, ⟨by decide, by decide⟩, by decide, fun pages pg0 pg1 => ?_⟩
    walk_at "go"
    refine ⟨p, ts, 31, 17 - pages, rfl, SqL.of kT8, ⟨by decide, by decide⟩, by omega, fun u4 u40 u41 => ?_⟩
    walk_at "go"
    dsimp only
    generalize pages + u4 = greatest
    refine ⟨st, _, dxs, _, _, rfl, st8, T.cl_Store, T.n_Store_memories, lk_Store_memories, .inl ⟨rfl, _, SqL.of klm8⟩, ?_⟩
    refine ⟨_, rfl, _, rfl, ?_⟩
    intro me dme nme ndme nxme
    refine ⟨me, dme, pages, greatest, rfl, upd_same, fun H9 kme9 b9 => ⟨rfl, ?_⟩⟩
    have s9 := made_same nme ndme b9
    walk_at "go"
    have st9 := s9 _ _ st8
    have klm9 := s9 _ _ klm8
    refine ⟨_, _, _, rfl, rfl, klm9, (by show 0 < sizeLine; decide), ?_⟩
    generalize x10 : upd H9 lm _ = H10
    have b10 : SameBut [lm] H9 H10 := by subst x10; exact (SameBut.refl _).upd (List.mem_singleton.mpr rfl)
    have km10 : H10 lm = some (.lst [.ref me]) := by subst x10; exact upd_same
    clear x10
    have c10 : ∀ a o, a ≠ lm → H8 a = some o → H10 a = some o := fun a o n e => b10 _ _ (nm n) (s9 _ _ e)
    have S10 : Same H3 H10 := Same.of_but (S8.trans s9) b10 fun l hl => fresh l (by rw [List.mem_singleton.mp hl]; simp)
    have st10 := b10 _ _ (nm (ne_lst st9 klm9 fun _ z => nomatch z)) st9
    have klv10 := c10 _ _ (Ne.symm n8) klv8
    have kg10 := c10 _ _ (Ne.symm n9) kg8
    have kf10 := c10 _ _ n2 kf8
    have kt10 := c10 _ _ n5 kt8
    have kF10 := c10 _ _ (ne_lst kF8 klm8 fun _ z => nomatch z) kF8
    have ktf10 := c10 _ _ (ne_lst ktf8 klm8 fun _ z => nomatch z) ktf8
    have ktb10 := c10 _ _ (ne_lst ktb8 klm8 fun _ z => nomatch z) ktb8
    have kte10 := c10 _ _ (Ne.symm nlm) kte8
    obtain ⟨dm, dc, kme9'⟩ := kme9
    have kme10 := b10 _ _ (nm (ne_lst kme9' klm9 fun _ z => nomatch z)) kme9'
    clear kte8 ktb8 ktf8 kF8 kt8 kf8 kg8 klv8 st8 klm8 st9 klm9 kme9' b9 b10 c10 s9 S8 kT8
    walk_at "go"
    intro ko hko
    generalize x11 : upd H10 ko _ = H11
    obtain ⟨s11, k11⟩ : Same H10 H11 ∧ H11 ko = some (.lst (kindsS.map V.str)) := by subst x11; exact ⟨Same.new hko, upd_same⟩
    clear x11
    have S11 := S10.trans s11
    walk_at "go"
    refine ⟨p, ts, 32, 2, rfl, SqL.of (S11 _ _ kT3), ⟨by decide, by decide⟩, by decide, fun v5 v50 v51 => ?_⟩
    obtain ⟨kz, ekz, hkz⟩ := kinds_at v50 v51
    refine ⟨ko, _, _, _, rfl, rfl, SqL.of k11, ekz, ?_⟩
    walk_at "go"
    refine ⟨p, ts, 33, 2, rfl, SqL.of (S11 _ _ kT3), ⟨by decide, by decide⟩, by decide, fun v6 v60 v61 => ?_⟩
    walk_at "go"
    generalize decide (V.int v6 = V.int 0) = mb
    intro mi hmi
    generalize x12 : upd H11 mi _ = H12
    obtain ⟨s12, k12⟩ := newO hmi x12
    clear x12
    walk_at "go"
    have s112 := s11.trans s12
    have klv12 := s112 _ _ klv10
    refine ⟨st, _, dxs, _, _, rfl, s112 _ _ st10, T.cl_Store, T.n_Store_variables, lk_Store_variables, .inl ⟨rfl, _, SqL.of klv12⟩, ?_⟩
    walk_at "go"
    refine ⟨mi, _, _, _, rfl, rfl, SqT.of k12, rfl, ?_⟩
    walk_at "go"
    refine ⟨mi, _, _, _, rfl, rfl, SqT.of k12, rfl, ?_⟩
    walk_at "go"
    intro gl dgl ngl ndgl nxgl
    refine ⟨gl, dgl, kz, mb, 5, rfl, upd_same, fun H13 kgl13 b13 => ⟨rfl, ?_⟩⟩
    have s13 := made_same ngl ndgl b13
    walk_at "go"
    have klv13 := s13 _ _ klv12
    refine ⟨_, _, _, rfl, rfl, klv13, (by show 0 < sizeLine; decide), ?_⟩
    generalize x14 : upd H13 lv _ = H14
    have b14 : SameBut [lv] H13 H14 := by subst x14; exact (SameBut.refl _).upd (List.mem_singleton.mpr rfl)
    have kv14 : H14 lv = some (.lst [.ref gl]) := by subst x14; exact upd_same
    clear x14
    have c14 : ∀ a o, a ≠ lv → H10 a = some o → H14 a = some o := fun a o n e => b14 _ _ (nm n) (s13 _ _ (s112 _ _ e))
    have S14 : Same H3 H14 := Same.of_but (S10.trans (s112.trans s13)) b14 fun l hl => fresh l (by rw [List.mem_singleton.mp hl]; simp)
    have st14 := c14 _ _ (ne_lst st10 klv10 fun _ z => nomatch z) st10
    have kg14 := c14 _ _ (Ne.symm n10) kg10
    have kf14 := c14 _ _ n3 kf10
    have kt14 := c14 _ _ n6 kt10
    have km14 := c14 _ _ n8 km10
    have kF14 := c14 _ _ (ne_lst kF10 klv10 fun _ z => nomatch z) kF10
    have ktf14 := c14 _ _ (ne_lst ktf10 klv10 fun _ z => nomatch z) ktf10
    have ktb14 := c14 _ _ (ne_lst ktb10 klv10 fun _ z => nomatch z) ktb10
    have kte14 := c14 _ _ (Ne.symm nlv) kte10
    have kme14 := c14 _ _ (ne_lst kme10 klv10 fun _ z => nomatch z) kme10
    have kmi14 := b14 _ _ (nm (ne_lst (s13 _ _ k12) klv13 fun _ z => nomatch z)) (s13 _ _ k12)
    obtain ⟨dg, kgl13'⟩ := kgl13
    have kgl14 := b14 _ _ (nm (ne_lst kgl13' klv13 fun _ z => nomatch z)) kgl13'
    clear kgl13' c14 b14 klv13 klv12 klv10 kme10 kte10 ktb10 ktf10 kF10 km10 kt10 kf10 kg10 st10 k12 k11 s13 b13 s112 s12 s11 S11 S10
    refine ⟨fun σ G => ∃ (O st mo mi lf lt lm lv lg li F tf tb te me gl sg : Addr) (t : Nat → Addr) (sh : Nat → Shape) (d0 d1 : Nat) (size most pages greatest : Int) (kz : Str) (mb : Bool) (xe : List V), Stt cs ts G p O D st mo mi lf lt lm lv lg li F tf tb te me gl sg t sh d0 d1 size most pages greatest kz mb xe ∧
      σ = [some (.ref a), some (.ref p), some (.ref D), some (.ref O), some (.ref st), some (.int 0), some (.int size), some (.int most), some (.int pages), some (.int greatest), some (.ref mi), some (.ref mo), none, none, none, none, none, none], ?_, ?_⟩
    · walk_at "go"
      have hT14 := hT3.mono S14
      refine ⟨D, _, rfl, .inl ⟨SqL.of hT14.1, fun sg hsg => ?_⟩⟩
      generalize x15 : upd H14 sg _ = H15
      obtain ⟨s15, k15⟩ := newO hsg x15
      clear x15
      refine ⟨rfl, rfl, fun mo dmo nmo ndmo nxmo => ?_⟩
      refine ⟨mo, dmo, .ref sg, rfl, upd_same, fun H16 kmo16 b16 => ⟨rfl, ?_⟩⟩
      have s16 := made_same nmo ndmo b16
      have s1416 := s15.trans s16
      have S16 := S14.trans s1416
      have hStt : Stt cs ts H16 p O D st mo mi lf lt lm lv lg li F tf tb te me gl sg t sh d0 d1 size most pages greatest kz mb xe :=
        ⟨S16 _ _ kT3, S16 _ _ k3, e0, e1, hT3.mono S16, ⟨dxs, s1416 _ _ st14⟩, s1416 _ _ kf14, s1416 _ _ kF14, ⟨p0, r0, s1416 _ _ ktf14, S16 _ _ g2, S16 _ _ g3⟩, s1416 _ _ kg14, s1416 _ _ kt14, ⟨_, te, xe, s1416 _ _ ktb14, s1416 _ _ kte14, hxe⟩,
          s1416 _ _ km14, ⟨_, _, s1416 _ _ kme14⟩, s1416 _ _ kv14, ⟨dg, s1416 _ _ kgl14⟩, s1416 _ _ kmi14, kmo16, s16 _ _ k15, hkz⟩
      exact ⟨O, st, mo, mi, lf, lt, lm, lv, lg, li, F, tf, tb, te, me, gl, sg, t, sh, d0, d1, size, most, pages, greatest, kz, mb, xe, hStt, rfl⟩
    clear hS hlen hN hT s1 hD
    rintro _ H16 ⟨O, st, mo, mi, lf, lt, lm, lv, lg, li, F, tf, tb, te, me, gl, sg, t, sh, d0, d1, size, most, pages, greatest, kz, mb, xe, hStt, rfl⟩
    have e0 := hStt.l0
    have e1 := hStt.l1
    have hkz := hStt.zk
    have hTS : ∀ k, k < 3 → ([V.ref (t 0), V.ref (t 1), V.ref (t 2)])[k]? = some (V.ref (t k)) := fun k hk => by
      match k, hk with
      | 0, _ => rfl
      | 1, _ => rfl
      | 2, _ => rfl
    refine ⟨fun σ G' => Same H16 G' ∧ ∃ o12 o13 o14 o15 o16 o17, σ = [some (.ref a), some (.ref p), some (.ref D), some (.ref O), some (.ref st), some (.int 0), some (.int size), some (.int most), some (.int pages), some (.int greatest), some (.ref mi), some (.ref mo), o12, o13, o14, o15, o16, o17], ?_, ?_⟩
    · walk_at "go"
      refine for_rangeD (lo := 0) (n := 3) (fun i σ G' => Same H16 G' ∧ ∃ o12 o13 o14 o15 o16 o17, σ = [some (.ref a), some (.ref p), some (.ref D), some (.ref O), some (.ref st), some (.int 0), some (.int size), some (.int most), some (.int pages), some (.int greatest), some (.ref mi), some (.ref mo), o12, o13, o14, o15, o16, o17]) ⟨Same.refl _, _, _, _, _, _, _, rfl⟩ ?_ ?_
      · rintro k _ G' hk ⟨sG', o12, o13, o14, o15, o16, o17, rfl⟩
        rw [Int.zero_add]
        walk_at "go"
        refine for_rangeD (lo := 0) (n := 2) (fun j σ G2 => Same H16 G2 ∧ ∃ o13 o14 o15 o16 o17, σ = [some (.ref a), some (.ref p), some (.ref D), some (.ref O), some (.ref st), some (.int 0), some (.int size), some (.int most), some (.int pages), some (.int greatest), some (.ref mi), some (.ref mo), some (.int (k : Int)), o13, o14, o15, o16, o17]) ⟨sG', _, _, _, _, _, rfl⟩ ?_ ?_
        · rintro j _ G2 hj ⟨sG2, o13, o14, o15, o16, o17, rfl⟩
          have Z := hStt.mono sG2
          rw [Int.zero_add]
          rcases (show j = 0 ∨ j = 1 by omega) with rfl | rfl
          · walk_at "go"
            intro l1 hl1
            generalize y1 : upd G2 l1 _ = G3
            obtain ⟨r1, kl1⟩ := newO hl1 y1
            clear y1
            have Z3 := Z.mono r1
            refine ⟨_, rfl, l1, _, _, _, rfl, rfl, SqL.of kl1, rfl, ?_⟩
            walk_at "go"
            refine ⟨D, _, _, _, rfl, rfl, SqL.of Z3.t3.1, T3.at hk, ?_⟩
            walk_at "go"
            refine ⟨O, _, _, _, rfl, rfl, SqL.of Z3.own, rfl, ?_⟩
            refine ⟨D, _, _, _, rfl, rfl, SqL.of Z3.t3.1, T3.at e0, ?_⟩
            refine eqD_sg (Z3.t3.2 k hk).1 (Z3.t3.2 d0 e0).1 (Z3.t3.2 k hk).2 (Z3.t3.2 d0 e0).2 ?_
            walk_at "go"
            intro row hrow
            generalize y2 : upd G3 row _ = G4
            obtain ⟨r2, krow⟩ := newO hrow y2
            clear y2
            walk_at "go"
            intro l2 hl2'
            generalize y3 : upd G4 l2 _ = G5
            obtain ⟨r3, kl2⟩ := newO hl2' y3
            clear y3
            have r23 := r2.trans r3
            have Z5 := Z3.mono r23
            refine ⟨_, rfl, l2, _, _, _, rfl, rfl, SqL.of kl2, rfl, ?_⟩
            have ec : decide (sh d0 = sh k) = decide (sh k = sh d0) := by rw [Bool.eq_iff_iff]; simp [eq_comm]
            refine ⟨st, mo, row, lf, lt, lm, lv, lg, li, sg, _, _, _, _, _, rfl, Z5.sto, r3 _ _ krow, Z5.mo, Z5.ksg, .inl ⟨rfl, k, F, tf, t k, sh d0, sh k, rfl, Z5.kf, Z5.kF, Z5.sF, hTS k hk, (Z5.t3.2 k hk).1, (Z5.t3.2 d0 e0).2, (Z5.t3.2 k hk).2, fun G6 s6 => ?_⟩⟩
            walk_at "go"
            refine ⟨decide (sh k = sh d0), by rw [ec]; rfl, ?_⟩
            walk_at "go"
            exact ⟨sG2.trans (r1.trans (r23.trans s6)), _, _, _, _, _, rfl⟩
          · walk_at "go"
            intro l1 hl1
            generalize y1 : upd G2 l1 _ = G3
            obtain ⟨r1, kl1⟩ := newO hl1 y1
            clear y1
            have Z3 := Z.mono r1
            refine ⟨_, rfl, l1, _, _, _, rfl, rfl, SqL.of kl1, rfl, ?_⟩
            walk_at "go"
            refine ⟨D, _, _, _, rfl, rfl, SqL.of Z3.t3.1, T3.at hk, ?_⟩
            walk_at "go"
            refine ⟨O, _, _, _, rfl, rfl, SqL.of Z3.own, rfl, ?_⟩
            refine ⟨D, _, _, _, rfl, rfl, SqL.of Z3.t3.1, T3.at e1, ?_⟩
            refine eqD_sg (Z3.t3.2 k hk).1 (Z3.t3.2 d1 e1).1 (Z3.t3.2 k hk).2 (Z3.t3.2 d1 e1).2 ?_
            walk_at "go"
            intro row hrow
            generalize y2 : upd G3 row _ = G4
            obtain ⟨r2, krow⟩ := newO hrow y2
            clear y2
            walk_at "go"
            intro l2 hl2'
            generalize y3 : upd G4 l2 _ = G5
            obtain ⟨r3, kl2⟩ := newO hl2' y3
            clear y3
            have r23 := r2.trans r3
            have Z5 := Z3.mono r23
            refine ⟨_, rfl, l2, _, _, _, rfl, rfl, SqL.of kl2, rfl, ?_⟩
            have ec : decide (sh d1 = sh k) = decide (sh k = sh d1) := by rw [Bool.eq_iff_iff]; simp [eq_comm]
            refine ⟨st, mo, row, lf, lt, lm, lv, lg, li, sg, _, _, _, _, _, rfl, Z5.sto, r3 _ _ krow, Z5.mo, Z5.ksg, .inr (.inl ⟨rfl, k, t d1, t k, sh d1, sh k, rfl, Z5.kg, (Z5.t3.2 d1 e1).1, hTS k hk, (Z5.t3.2 k hk).1, (Z5.t3.2 d1 e1).2, (Z5.t3.2 k hk).2, fun G6 s6 => ?_⟩)⟩
            walk_at "go"
            refine ⟨decide (sh k = sh d1), by rw [ec]; rfl, ?_⟩
            walk_at "go"
            exact ⟨sG2.trans (r1.trans (r23.trans s6)), _, _, _, _, _, rfl⟩
        · rintro _ G2 ⟨sG2, o13, o14, o15, o16, o17, rfl⟩
          exact ⟨sG2, _, _, _, _, _, _, rfl⟩
      rintro _ G' ⟨sG', o12, o13, o14, o15, o16, o17, rfl⟩
      exact ⟨sG', _, _, _, _, _, _, rfl⟩
    rintro _ G' ⟨sG', o12, o13, o14, o15, o16, o17, rfl⟩
    refine ⟨fun σ G' => Same H16 G' ∧ ∃ o12 o13 o14 o15 o16 o17, σ = [some (.ref a), some (.ref p), some (.ref D), some (.ref O), some (.ref st), some (.int 0), some (.int size), some (.int most), some (.int pages), some (.int greatest), some (.ref mi), some (.ref mo), o12, o13, o14, o15, o16, o17], ?_, ?_⟩
    · walk_at "go"
      refine for_rangeD (lo := 0) (n := 3) (fun i σ G2 => Same H16 G2 ∧ ∃ o12 o13 o14 o15 o16 o17, σ = [some (.ref a), some (.ref p), some (.ref D), some (.ref O), some (.ref st), some (.int 0), some (.int size), some (.int most), some (.int pages), some (.int greatest), some (.ref mi), some (.ref mo), o12, o13, o14, o15, o16, o17]) ⟨sG', _, _, _, _, _, _, rfl⟩ ?_ ?_
      · rintro k _ G2 hk ⟨sG2, o12, o13, o14, o15, o16, o17, rfl⟩
        have Z := hStt.mono sG2
        rw [Int.zero_add]
        walk_at "go"
        refine ⟨p, ts, 34 + 6 * (k : Int), size, most, rfl, SqL.of Z.tape, ⟨by omega, by omega⟩, fun L1 least1 g1 G3 kL1 r1 => ?_⟩
        walk_at "go"
        refine ⟨size, most, least1, L1, g1, rfl, SqT.of kL1, ?_⟩
        walk_at "go"
        intro row1 hrow1
        generalize y2 : upd G3 row1 _ = G4
        obtain ⟨r2, krow1⟩ := newO hrow1 y2
        clear y2
        have Z4 := (Z.mono r1).mono r2
        walk_at "go"
        refine ⟨st, mo, row1, lf, lt, lm, lv, lg, li, sg, _, _, _, _, _, rfl, Z4.sto, krow1, Z4.mo, Z4.ksg, .inr (.inr (.inr (.inl ⟨rfl, L1, tb, least1, size, most, g1, rfl, r2 _ _ kL1, Z4.kt, Z4.tab, fun G5 s5 => ?_⟩)))⟩
        walk_at "go"
        have Z5 := Z4.mono s5
        refine ⟨p, ts, 37 + 6 * (k : Int), pages, greatest, rfl, SqL.of Z5.tape, ⟨by omega, by omega⟩, fun L2 least2 g2' G6 kL2 r6 => ?_⟩
        walk_at "go"
        refine ⟨pages, greatest, least2, L2, g2', rfl, SqT.of kL2, ?_⟩
        walk_at "go"
        intro row2 hrow2
        generalize y7 : upd G6 row2 _ = G7
        obtain ⟨r7, krow2⟩ := newO hrow2 y7
        clear y7
        have Z7 := (Z5.mono r6).mono r7
        walk_at "go"
        refine ⟨st, mo, row2, lf, lt, lm, lv, lg, li, sg, _, _, _, _, _, rfl, Z7.sto, krow2, Z7.mo, Z7.ksg, .inr (.inr (.inr (.inr ⟨rfl, L2, me, least2, pages, greatest, g2', rfl, r7 _ _ kL2, Z7.km, Z7.mem, fun G8 s8 => ?_⟩)))⟩
        walk_at "go"
        exact ⟨sG2.trans (r1.trans (r2.trans (s5.trans (r6.trans (r7.trans s8))))), _, _, _, _, _, _, rfl⟩
      rintro _ G2 ⟨sG2, o12, o13, o14, o15, o16, o17, rfl⟩
      exact ⟨sG2, _, _, _, _, _, _, rfl⟩
    clear sG' o12 o13 o14 o15 o16 o17
    rintro _ G2 ⟨sG2, o12, o13, o14, o15, o16, o17, rfl⟩
    walk_at "go"
    intro l1 hl1
    generalize y1 : upd G2 l1 _ = G3
    obtain ⟨r1, kl1⟩ := newO hl1 y1
    clear y1
    have sG3 := sG2.trans r1
    refine ⟨l1, rfl, ⟨_, SqL.of kl1⟩, for_listD (xs := [.str "i32", .str "i64"]) (fun i σ G4 => Same G3 G4 ∧ ∃ o12 o13 o14 o15 o16 o17, σ = [some (.ref a), some (.ref p), some (.ref D), some (.ref O), some (.ref st), some (.int 0), some (.int size), some (.int most), some (.int pages), some (.int greatest), some (.ref mi), some (.ref mo), o12, o13, o14, o15, o16, o17]) ⟨Same.refl _, _, _, _, _, _, _, rfl⟩ (fun i σ G4 _ h => SqL.of (h.1 _ _ kl1)) ?_ ?_⟩
    · rintro i x _ G4 hx ⟨sG4, o12, o13, o14, o15, o16, o17, rfl⟩
      obtain ⟨kd, rfl, hkd⟩ : ∃ kd : Str, x = .str kd ∧ (kd = "i32" ∨ kd = "i64") := by
        match i, hx with
        | 0, h => exact ⟨"i32", (Option.some.inj h).symm, .inl rfl⟩
        | 1, h => exact ⟨"i64", (Option.some.inj h).symm, .inr rfl⟩
      walk_at "go"
      intro l2 hl2'
      generalize y2 : upd G4 l2 _ = G5
      obtain ⟨r2, kl2⟩ := newO hl2' y2
      clear y2
      have sG5 := sG4.trans r2
      refine ⟨l2, rfl, ⟨_, SqL.of kl2⟩, for_listD (xs := [.bl true, .bl false]) (fun i σ G6 => Same G5 G6 ∧ ∃ o12 o14 o15 o16 o17, σ = [some (.ref a), some (.ref p), some (.ref D), some (.ref O), some (.ref st), some (.int 0), some (.int size), some (.int most), some (.int pages), some (.int greatest), some (.ref mi), some (.ref mo), o12, some (.str kd), o14, o15, o16, o17]) ⟨Same.refl _, _, _, _, _, _, rfl⟩ (fun i σ G6 _ h => SqL.of (h.1 _ _ kl2)) ?_ ?_⟩
      · rintro i2 x2 _ G6 hx2 ⟨sG6, o12, o14, o15, o16, o17, rfl⟩
        obtain ⟨mu, rfl⟩ : ∃ mu : Bool, x2 = .bl mu := by
          match i2, hx2 with
          | 0, h => exact ⟨true, (Option.some.inj h).symm⟩
          | 1, h => exact ⟨false, (Option.some.inj h).symm⟩
        have Z := hStt.mono (sG3.trans (sG5.trans sG6))
        have ed : decide (V.str kz = V.str kd) = decide (kz = kd) := by rw [Bool.eq_iff_iff]; simp
        walk_at "go"
        refine ⟨mi, _, _, _, rfl, rfl, SqT.of Z.mi, rfl, ?_⟩
        walk_at "go"
        refine andIf (b2 := decide (mb = mu)) (fun Q' q' => ?_) ?_
        · walk_at "go"
          refine ⟨mi, _, _, _, rfl, rfl, SqT.of Z.mi, rfl, ?_⟩
          walk_at "go"
          exact eqD_bl q'
        rw [ed]
        walk_at "go"
        intro W hW
        generalize y6 : upd G6 W _ = G7
        obtain ⟨r6, kW⟩ := newO hW y6
        clear y6
        walk_at "go"
        intro row hrow
        generalize y7 : upd G7 row _ = G8
        obtain ⟨r7, krow⟩ := newO hrow y7
        clear y7
        have Z8 := (Z.mono r6).mono r7
        walk_at "go"
        refine ⟨st, mo, row, lf, lt, lm, lv, lg, li, sg, _, _, _, _, _, rfl, Z8.sto, krow, Z8.mo, Z8.ksg, .inr (.inr (.inl ⟨rfl, W, gl, kz, kd, mb, mu, 5, rfl, r7 _ _ kW, Z8.kv, Z8.glo, ok_kind hkz, ok_kind hkd, fun G9 s9 => ?_⟩))⟩
        walk_at "go"
        exact ⟨sG6.trans (r6.trans (r7.trans s9)), _, _, _, _, _, rfl⟩
      · rintro _ G6 ⟨sG6, o12, o14, o15, o16, o17, rfl⟩
        exact ⟨sG5.trans sG6, _, _, _, _, _, _, rfl⟩
    rintro _ G4 ⟨sG4, o12, o13, o14, o15, o16, o17, rfl⟩
    walk_at "go"
    exact q _
end
theorem all_mk {l : PySem.W.OpenLaw} {w : World} {K : PySem.W.Frag} {h : Heap} {mg : Str → Option Value} {fa f0 f1 f2 f3 f4 f5 f6 f7 f8 f9 f10 f11 f12 f13 f14 f15 f16 f17 f18 : Addr} (X : K.In h) (G : h.Ns mainGlobals mg) (hfa : mg "law" = some (.ref fa))
    {od0 an0 od1 an1 od2 an2 od3 an3 od4 an4 od5 an5 od6 an6 od7 an7 od8 an8 od9 an9 od10 an10 od11 an11 od12 an12 od13 an13 od14 an14 od15 an15 od16 an16 od17 an17 od18 an18 : Option Addr} {sl0 sl1 sl2 sl3 sl4 sl5 sl6 sl7 sl8 sl9 sl10 sl11 sl12 sl13 sl14 sl15 sl16 sl17 sl18 : Array (Option Value)} {oc0 kV0 dc0 pm0 cd0 ct0 oc1 kV1 dc1 pm1 cd1 ct1 oc2 kV2 dc2 pm2 cd2 ct2 oc3 kV3 dc3 pm3 cd3 ct3 oc4 kV4 dc4 pm4 cd4 ct4 oc5 kV5 dc5 pm5 cd5 ct5 oc6 kV6 dc6 pm6 cd6 ct6 oc7 kV7 dc7 pm7 cd7 ct7 oc8 kV8 dc8 pm8 cd8 ct8 oc9 kV9 dc9 pm9 cd9 ct9 oc10 kV10 dc10 pm10 cd10 ct10 oc11 kV11 dc11 pm11 cd11 ct11 oc12 kV12 dc12 pm12 cd12 ct12 oc13 kV13 dc13 pm13 cd13 ct13 oc14 kV14 dc14 pm14 cd14 ct14 oc15 kV15 dc15 pm15 cd15 ct15 oc16 kV16 dc16 pm16 cd16 ct16 oc17 kV17 dc17 pm17 cd17 ct17 oc18 dc18 pm18 cd18 ct18 : Value}
    (a0 : PySem.W.nsIn K mainGlobals "items_of" = some (some (.ref f0))) (l0 : K.lookup f0 = some ⟨oc0, od0, .func (PySem.W.fnOf "items_of" "items_of" (defArgs s_items_of) (defBody s_items_of) (defScope s_items_of) .none kV0 dc0 pm0 an0 cd0 ct0), sl0⟩) (c0 : PySem.W.codeIn K cd0 "items_of" = true) (k0 : PySem.W.keepIn K (.ref f0) = true)
    (a1 : PySem.W.nsIn K mainGlobals "host_functions" = some (some (.ref f1))) (l1 : K.lookup f1 = some ⟨oc1, od1, .func (PySem.W.fnOf "host_functions" "host_functions" (defArgs s_host_functions) (defBody s_host_functions) (defScope s_host_functions) .none kV1 dc1 pm1 an1 cd1 ct1), sl1⟩) (c1 : PySem.W.codeIn K cd1 "host_functions" = true) (k1 : PySem.W.keepIn K (.ref f1) = true)
    (a2 : PySem.W.nsIn K mainGlobals "check_signature" = some (some (.ref f2))) (l2 : K.lookup f2 = some ⟨oc2, od2, .func (PySem.W.fnOf "check_signature" "check_signature" (defArgs s_check_signature) (defBody s_check_signature) (defScope s_check_signature) .none kV2 dc2 pm2 an2 cd2 ct2), sl2⟩) (c2 : PySem.W.codeIn K cd2 "check_signature" = true) (k2 : PySem.W.keepIn K (.ref f2) = true)
    (a3 : PySem.W.nsIn K mainGlobals "add_host" = some (some (.ref f3))) (l3 : K.lookup f3 = some ⟨oc3, od3, .func (PySem.W.fnOf "add_host" "add_host" (defArgs s_add_host) (defBody s_add_host) (defScope s_add_host) .none kV3 dc3 pm3 an3 cd3 ct3), sl3⟩) (c3 : PySem.W.codeIn K cd3 "add_host" = true) (k3 : PySem.W.keepIn K (.ref f3) = true)
    (a4 : PySem.W.nsIn K mainGlobals "size_fits" = some (some (.ref f4))) (l4 : K.lookup f4 = some ⟨oc4, od4, .func (PySem.W.fnOf "size_fits" "size_fits" (defArgs s_size_fits) (defBody s_size_fits) (defScope s_size_fits) .none kV4 dc4 pm4 an4 cd4 ct4), sl4⟩) (c4 : PySem.W.codeIn K cd4 "size_fits" = true) (k4 : PySem.W.keepIn K (.ref f4) = true)
    (a5 : PySem.W.nsIn K mainGlobals "item_fits" = some (some (.ref f5))) (l5 : K.lookup f5 = some ⟨oc5, od5, .func (PySem.W.fnOf "item_fits" "item_fits" (defArgs s_item_fits) (defBody s_item_fits) (defScope s_item_fits) .none kV5 dc5 pm5 an5 cd5 ct5), sl5⟩) (c5 : PySem.W.codeIn K cd5 "item_fits" = true) (k5 : PySem.W.keepIn K (.ref f5) = true)
    (a6 : PySem.W.nsIn K mainGlobals "_law_tape" = some (some (.ref f6))) (l6 : K.lookup f6 = some ⟨oc6, od6, .func (PySem.W.fnOf "_law_tape" "_law_tape" (defArgs s__law_tape) (defBody s__law_tape) (defScope s__law_tape) .none kV6 dc6 pm6 an6 cd6 ct6), sl6⟩) (c6 : PySem.W.codeIn K cd6 "_law_tape" = true) (k6 : PySem.W.keepIn K (.ref f6) = true)
    (a7 : PySem.W.nsIn K mainGlobals "_law_draw" = some (some (.ref f7))) (l7 : K.lookup f7 = some ⟨oc7, od7, .func (PySem.W.fnOf "_law_draw" "_law_draw" (defArgs s__law_draw) (defBody s__law_draw) (defScope s__law_draw) .none kV7 dc7 pm7 an7 cd7 ct7), sl7⟩) (c7 : PySem.W.codeIn K cd7 "_law_draw" = true) (k7 : PySem.W.keepIn K (.ref f7) = true)
    (a8 : PySem.W.nsIn K mainGlobals "_law_says" = some (some (.ref f8))) (l8 : K.lookup f8 = some ⟨oc8, od8, .func (PySem.W.fnOf "_law_says" "_law_says" (defArgs s__law_says) (defBody s__law_says) (defScope s__law_says) .none kV8 dc8 pm8 an8 cd8 ct8), sl8⟩) (c8 : PySem.W.codeIn K cd8 "_law_says" = true) (k8 : PySem.W.keepIn K (.ref f8) = true)
    (a9 : PySem.W.nsIn K mainGlobals "_law_signature" = some (some (.ref f9))) (l9 : K.lookup f9 = some ⟨oc9, od9, .func (PySem.W.fnOf "_law_signature" "_law_signature" (defArgs s__law_signature) (defBody s__law_signature) (defScope s__law_signature) .none kV9 dc9 pm9 an9 cd9 ct9), sl9⟩) (c9 : PySem.W.codeIn K cd9 "_law_signature" = true) (k9 : PySem.W.keepIn K (.ref f9) = true)
    (a10 : PySem.W.nsIn K mainGlobals "_law_near" = some (some (.ref f10))) (l10 : K.lookup f10 = some ⟨oc10, od10, .func (PySem.W.fnOf "_law_near" "_law_near" (defArgs s__law_near) (defBody s__law_near) (defScope s__law_near) .none kV10 dc10 pm10 an10 cd10 ct10), sl10⟩) (c10 : PySem.W.codeIn K cd10 "_law_near" = true) (k10 : PySem.W.keepIn K (.ref f10) = true)
    (a11 : PySem.W.nsIn K mainGlobals "_law_limit" = some (some (.ref f11))) (l11 : K.lookup f11 = some ⟨oc11, od11, .func (PySem.W.fnOf "_law_limit" "_law_limit" (defArgs s__law_limit) (defBody s__law_limit) (defScope s__law_limit) .none kV11 dc11 pm11 an11 cd11 ct11), sl11⟩) (c11 : PySem.W.codeIn K cd11 "_law_limit" = true) (k11 : PySem.W.keepIn K (.ref f11) = true)
    (a12 : PySem.W.nsIn K mainGlobals "_law_limit_fits" = some (some (.ref f12))) (l12 : K.lookup f12 = some ⟨oc12, od12, .func (PySem.W.fnOf "_law_limit_fits" "_law_limit_fits" (defArgs s__law_limit_fits) (defBody s__law_limit_fits) (defScope s__law_limit_fits) .none kV12 dc12 pm12 an12 cd12 ct12), sl12⟩) (c12 : PySem.W.codeIn K cd12 "_law_limit_fits" = true) (k12 : PySem.W.keepIn K (.ref f12) = true)
    (a13 : PySem.W.nsIn K mainGlobals "law" = some (some (.ref f13))) (l13 : K.lookup f13 = some ⟨oc13, od13, .func (PySem.W.fnOf "law" "law" (defArgs s_law) (defBody s_law) (defScope s_law) .none kV13 dc13 pm13 an13 cd13 ct13), sl13⟩) (c13 : PySem.W.codeIn K cd13 "law" = true) (k13 : PySem.W.keepIn K (.ref f13) = true)
    (z_bool : PySem.W.nsIn K mainGlobals "bool" = some none)
    (z_enumerate : PySem.W.nsIn K mainGlobals "enumerate" = some none)
    (z_int : PySem.W.nsIn K mainGlobals "int" = some none)
    (z_isinstance : PySem.W.nsIn K mainGlobals "isinstance" = some none)
    (z_len : PySem.W.nsIn K mainGlobals "len" = some none)
    (z_max : PySem.W.nsIn K mainGlobals "max" = some none)
    (z_range : PySem.W.nsIn K mainGlobals "range" = some none)
    (z_tuple : PySem.W.nsIn K mainGlobals "tuple" = some none)
    {cC_HostError cC_LimitReached cI_LimitReached : Addr}
    (sp0 : PySem.W.specialIn K (.builtin "object.__class__") "__get__" = some (some (.builtin "getset_descriptor.__get__"))) (tk0 : PySem.W.takesIn K (.builtin "object.__class__") = some true)
    (aC_HostError : PySem.W.nsIn K mainGlobals "HostError" = some (some (.ref cC_HostError)))
    (aC_LimitReached : PySem.W.nsIn K mainGlobals "LimitReached" = some (some (.ref cC_LimitReached)))
    (ex_HostError : PySem.W.subIn K (.ref cC_HostError) (.type "BaseException") = some true)
    (ty_HostError : PySem.W.typeIn K (.ref cC_HostError) = some (.type "type"))
    (hd_HostError : PySem.W.hasDictIn K cC_HostError = true)
    (ex_LimitReached : PySem.W.subIn K (.ref cC_LimitReached) (.type "BaseException") = some true)
    (ty_LimitReached : PySem.W.typeIn K (.ref cC_LimitReached) = some (.type "type"))
    (hd_LimitReached : PySem.W.hasDictIn K cC_LimitReached = true)
    {nm_LimitReached qn_LimitReached : Str} {N_LimitReached : Addr} {bs_LimitReached : List Value} {sn_LimitReached : List Str} {sub_LimitReached : List Value} {ab_LimitReached : Bool} {col_LimitReached : Option Bool} {dd_LimitReached : Option Addr} {m0_LimitReached m1_LimitReached m2_LimitReached m3_LimitReached m5_LimitReached : Option Value}
    (xl_LimitReached : K.lookup cC_LimitReached = some (excClassObj nm_LimitReached qn_LimitReached cC_LimitReached N_LimitReached bs_LimitReached [.ref cC_HostError, .type "ValueError", .type "Exception", .type "BaseException", .type "object"] true sn_LimitReached sub_LimitReached ab_LimitReached col_LimitReached dd_LimitReached m0_LimitReached m1_LimitReached m2_LimitReached m3_LimitReached m5_LimitReached "ValueError.__new__"))
    (sa_LimitReached : PySem.W.findIn K (.ref cC_LimitReached) "__setattr__" = some (some (.builtin "object.__setattr__")))
    (ga_LimitReached : PySem.W.findIn K (.ref cC_LimitReached) "__getattribute__" = some (some (.builtin "BaseException.__getattribute__")))
    (gg_LimitReached : PySem.W.findIn K (.ref cC_LimitReached) "__getattr__" = some none)
    (ca_LimitReached : PySem.W.findIn K (.ref cC_LimitReached) "__class__" = some (some (.builtin "object.__class__")))
    (kp_LimitReached : PySem.W.keepIn K (.ref cC_LimitReached) = true)
    (mr_LimitReached : PySem.W.mroIn K cC_LimitReached (.type "object") = some true)
    {odI_LimitReached anI_LimitReached : Option Addr} {slI_LimitReached : Array (Option Value)} {ocI_LimitReached kVI_LimitReached dcI_LimitReached pmI_LimitReached cdI_LimitReached ctI_LimitReached : Value}
    (aI_LimitReached : PySem.W.findIn K (.ref cC_LimitReached) "__init__" = some (some (.ref cI_LimitReached))) (tI_LimitReached : PySem.W.typeIn K (.ref cI_LimitReached) = some (.type "function"))
    (lI_LimitReached : K.lookup cI_LimitReached = some ⟨ocI_LimitReached, odI_LimitReached, .func (PySem.W.fnOf "__init__" "LimitReached.__init__" (defArgs i_LimitReached) (defBody i_LimitReached) (defScope i_LimitReached) .none kVI_LimitReached dcI_LimitReached pmI_LimitReached anI_LimitReached cdI_LimitReached ctI_LimitReached), slI_LimitReached⟩) (cdo_LimitReached : PySem.W.codeIn K cdI_LimitReached "LimitReached.__init__" = true) (kI_LimitReached : PySem.W.keepIn K (.ref cI_LimitReached) = true)
    (no_LimitReached_what : PySem.W.findIn K (.ref cC_LimitReached) "what" = some none)
    (sub_LimitReached_HostError : PySem.W.subIn K (.ref cC_LimitReached) (.ref cC_HostError) = some true) (ne_LimitReached_HostError : (Value.ref cC_LimitReached == Value.ref cC_HostError) = false)
    (sub_LimitReached_LimitReached : PySem.W.subIn K (.ref cC_LimitReached) (.ref cC_LimitReached) = some true)
    (sub_LimitReached_VE : PySem.W.subIn K (.ref cC_LimitReached) (.type "ValueError") = some true)
    {cC_Table : Addr}
    (aC_Table : PySem.W.nsIn K mainGlobals "Table" = some (some (.ref cC_Table)))
    {cC_Memory : Addr}
    (aC_Memory : PySem.W.nsIn K mainGlobals "Memory" = some (some (.ref cC_Memory)))
    {cC_Global : Addr}
    (aC_Global : PySem.W.nsIn K mainGlobals "Global" = some (some (.ref cC_Global)))
    {cC_Store : Addr}
    (aC_Store : PySem.W.nsIn K mainGlobals "Store" = some (some (.ref cC_Store)))
    {cC_Module : Addr}
    (aC_Module : PySem.W.nsIn K mainGlobals "Module" = some (some (.ref cC_Module)))
    {ce_Module_signatures ce_Module_imports ce_Module_functions ce_Module_tables ce_Module_memories ce_Module_tags ce_Module_variables ce_Module_exports ce_Module_table_segments ce_Module_memory_segments : Addr}
    {ki_MOST_KINDS : Tok} (ai_MOST_KINDS : PySem.W.nsIn K mainGlobals "MOST_KINDS" = some (some (.int 16 ki_MOST_KINDS)))
    {ki_MOST_HOSTS : Tok} (ai_MOST_HOSTS : PySem.W.nsIn K mainGlobals "MOST_HOSTS" = some (some (.int 20 ki_MOST_HOSTS)))
    (pg_Table : PySem.W.plainGet K cC_Table Str.empty = true)
    (hd_Table : PySem.W.hasDictIn K cC_Table = true)
    (po_Table : PySem.W.plainOver K cC_Table = true)
    (sa_Table : PySem.W.findIn K (.ref cC_Table) "__setattr__" = some (some (.builtin "object.__setattr__")))
    (mk_Table : PySem.W.makesIn K cC_Table = true)
    (kc_Table : PySem.W.keepIn K (.ref cC_Table) = true)
    (na_Table_entries : PySem.W.findIn K (.ref cC_Table) "entries" = some none)
    (na_Table_most : PySem.W.findIn K (.ref cC_Table) "most" = some none)
    (am14 : PySem.W.findIn K (.ref cC_Table) "__init__" = some (some (.ref f14))) (im14 : PySem.W.isFn K (.ref f14) = true)
    (l14 : K.lookup f14 = some ⟨oc14, od14, .func (PySem.W.fnOf "__init__" "Table.__init__" (defArgs s_Table___init__) (defBody s_Table___init__) (defScope s_Table___init__) .none kV14 dc14 pm14 an14 cd14 ct14), sl14⟩) (c14 : PySem.W.codeIn K cd14 "Table.__init__" = true) (k14 : PySem.W.keepIn K (.ref f14) = true)
    (pg_Memory : PySem.W.plainGet K cC_Memory Str.empty = true)
    (hd_Memory : PySem.W.hasDictIn K cC_Memory = true)
    (po_Memory : PySem.W.plainOver K cC_Memory = true)
    (sa_Memory : PySem.W.findIn K (.ref cC_Memory) "__setattr__" = some (some (.builtin "object.__setattr__")))
    (mk_Memory : PySem.W.makesIn K cC_Memory = true)
    (kc_Memory : PySem.W.keepIn K (.ref cC_Memory) = true)
    (na_Memory_pages : PySem.W.findIn K (.ref cC_Memory) "pages" = some none)
    (na_Memory_most : PySem.W.findIn K (.ref cC_Memory) "most" = some none)
    (na_Memory_cells : PySem.W.findIn K (.ref cC_Memory) "cells" = some none)
    (am15 : PySem.W.findIn K (.ref cC_Memory) "__init__" = some (some (.ref f15))) (im15 : PySem.W.isFn K (.ref f15) = true)
    (l15 : K.lookup f15 = some ⟨oc15, od15, .func (PySem.W.fnOf "__init__" "Memory.__init__" (defArgs s_Memory___init__) (defBody s_Memory___init__) (defScope s_Memory___init__) .none kV15 dc15 pm15 an15 cd15 ct15), sl15⟩) (c15 : PySem.W.codeIn K cd15 "Memory.__init__" = true) (k15 : PySem.W.keepIn K (.ref f15) = true)
    (pg_Global : PySem.W.plainGet K cC_Global Str.empty = true)
    (hd_Global : PySem.W.hasDictIn K cC_Global = true)
    (po_Global : PySem.W.plainOver K cC_Global = true)
    (sa_Global : PySem.W.findIn K (.ref cC_Global) "__setattr__" = some (some (.builtin "object.__setattr__")))
    (mk_Global : PySem.W.makesIn K cC_Global = true)
    (kc_Global : PySem.W.keepIn K (.ref cC_Global) = true)
    (na_Global_kind : PySem.W.findIn K (.ref cC_Global) "kind" = some none)
    (na_Global_mutable : PySem.W.findIn K (.ref cC_Global) "mutable" = some none)
    (na_Global_value : PySem.W.findIn K (.ref cC_Global) "value" = some none)
    (am16 : PySem.W.findIn K (.ref cC_Global) "__init__" = some (some (.ref f16))) (im16 : PySem.W.isFn K (.ref f16) = true)
    (l16 : K.lookup f16 = some ⟨oc16, od16, .func (PySem.W.fnOf "__init__" "Global.__init__" (defArgs s_Global___init__) (defBody s_Global___init__) (defScope s_Global___init__) .none kV16 dc16 pm16 an16 cd16 ct16), sl16⟩) (c16 : PySem.W.codeIn K cd16 "Global.__init__" = true) (k16 : PySem.W.keepIn K (.ref f16) = true)
    (pg_Store : PySem.W.plainGet K cC_Store Str.empty = true)
    (hd_Store : PySem.W.hasDictIn K cC_Store = true)
    (po_Store : PySem.W.plainOver K cC_Store = true)
    (sa_Store : PySem.W.findIn K (.ref cC_Store) "__setattr__" = some (some (.builtin "object.__setattr__")))
    (mk_Store : PySem.W.makesIn K cC_Store = true)
    (kc_Store : PySem.W.keepIn K (.ref cC_Store) = true)
    (na_Store_functions : PySem.W.findIn K (.ref cC_Store) "functions" = some none)
    (na_Store_tables : PySem.W.findIn K (.ref cC_Store) "tables" = some none)
    (na_Store_memories : PySem.W.findIn K (.ref cC_Store) "memories" = some none)
    (na_Store_variables : PySem.W.findIn K (.ref cC_Store) "variables" = some none)
    (na_Store_tags : PySem.W.findIn K (.ref cC_Store) "tags" = some none)
    (na_Store_instances : PySem.W.findIn K (.ref cC_Store) "instances" = some none)
    (am17 : PySem.W.findIn K (.ref cC_Store) "__init__" = some (some (.ref f17))) (im17 : PySem.W.isFn K (.ref f17) = true)
    (l17 : K.lookup f17 = some ⟨oc17, od17, .func (PySem.W.fnOf "__init__" "Store.__init__" (defArgs s_Store___init__) (defBody s_Store___init__) (defScope s_Store___init__) .none kV17 dc17 pm17 an17 cd17 ct17), sl17⟩) (c17 : PySem.W.codeIn K cd17 "Store.__init__" = true) (k17 : PySem.W.keepIn K (.ref f17) = true)
    (pg_Module : PySem.W.plainGet K cC_Module Str.empty = true)
    (hd_Module : PySem.W.hasDictIn K cC_Module = true)
    (po_Module : PySem.W.plainOver K cC_Module = true)
    (sa_Module : PySem.W.findIn K (.ref cC_Module) "__setattr__" = some (some (.builtin "object.__setattr__")))
    (mk_Module : PySem.W.makesIn K cC_Module = true)
    (kc_Module : PySem.W.keepIn K (.ref cC_Module) = true)
    (na_Module_signatures : PySem.W.findIn K (.ref cC_Module) "signatures" = some none)
    (na_Module_imports : PySem.W.findIn K (.ref cC_Module) "imports" = some none)
    (na_Module_functions : PySem.W.findIn K (.ref cC_Module) "functions" = some none)
    (na_Module_tables : PySem.W.findIn K (.ref cC_Module) "tables" = some none)
    (na_Module_memories : PySem.W.findIn K (.ref cC_Module) "memories" = some none)
    (na_Module_tags : PySem.W.findIn K (.ref cC_Module) "tags" = some none)
    (na_Module_variables : PySem.W.findIn K (.ref cC_Module) "variables" = some none)
    (na_Module_exports : PySem.W.findIn K (.ref cC_Module) "exports" = some none)
    (na_Module_start : PySem.W.findIn K (.ref cC_Module) "start" = some none)
    (na_Module_table_segments : PySem.W.findIn K (.ref cC_Module) "table_segments" = some none)
    (na_Module_memory_segments : PySem.W.findIn K (.ref cC_Module) "memory_segments" = some none)
    {kD_Module : Addr}
    (am18 : PySem.W.findIn K (.ref cC_Module) "__init__" = some (some (.ref f18))) (im18 : PySem.W.isFn K (.ref f18) = true)
    (l18 : K.lookup f18 = some ⟨oc18, od18, .func (PySem.W.fnOf "__init__" "Module.__init__" (defArgs s_Module___init__) (defBody s_Module___init__) (defScope s_Module___init__) .none (.ref kD_Module) dc18 pm18 an18 cd18 ct18), sl18⟩) (c18 : PySem.W.codeIn K cd18 "Module.__init__" = true) (k18 : PySem.W.keepIn K (.ref f18) = true)
    (kq_Module_signatures : PySem.W.nsIn K kD_Module "signatures" = some (some (.ref ce_Module_signatures)))
    {od_Module_signatures : Option Addr} {its_Module_signatures : Array Value} {n_Module_signatures : Nat} {sl_Module_signatures : Array (Option Value)} (le_Module_signatures : K.lookup ce_Module_signatures = some ⟨.type "tuple", od_Module_signatures, .seq its_Module_signatures n_Module_signatures, sl_Module_signatures⟩) (ze_Module_signatures : its_Module_signatures.size ≤ sizeLine) (ve_Module_signatures : Vals [] its_Module_signatures.toList)
    (kq_Module_imports : PySem.W.nsIn K kD_Module "imports" = some (some (.ref ce_Module_imports)))
    {od_Module_imports : Option Addr} {its_Module_imports : Array Value} {n_Module_imports : Nat} {sl_Module_imports : Array (Option Value)} (le_Module_imports : K.lookup ce_Module_imports = some ⟨.type "tuple", od_Module_imports, .seq its_Module_imports n_Module_imports, sl_Module_imports⟩) (ze_Module_imports : its_Module_imports.size ≤ sizeLine) (ve_Module_imports : Vals [] its_Module_imports.toList)
    (kq_Module_functions : PySem.W.nsIn K kD_Module "functions" = some (some (.ref ce_Module_functions)))
    {od_Module_functions : Option Addr} {its_Module_functions : Array Value} {n_Module_functions : Nat} {sl_Module_functions : Array (Option Value)} (le_Module_functions : K.lookup ce_Module_functions = some ⟨.type "tuple", od_Module_functions, .seq its_Module_functions n_Module_functions, sl_Module_functions⟩) (ze_Module_functions : its_Module_functions.size ≤ sizeLine) (ve_Module_functions : Vals [] its_Module_functions.toList)
    (kq_Module_tables : PySem.W.nsIn K kD_Module "tables" = some (some (.ref ce_Module_tables)))
    {od_Module_tables : Option Addr} {its_Module_tables : Array Value} {n_Module_tables : Nat} {sl_Module_tables : Array (Option Value)} (le_Module_tables : K.lookup ce_Module_tables = some ⟨.type "tuple", od_Module_tables, .seq its_Module_tables n_Module_tables, sl_Module_tables⟩) (ze_Module_tables : its_Module_tables.size ≤ sizeLine) (ve_Module_tables : Vals [] its_Module_tables.toList)
    (kq_Module_memories : PySem.W.nsIn K kD_Module "memories" = some (some (.ref ce_Module_memories)))
    {od_Module_memories : Option Addr} {its_Module_memories : Array Value} {n_Module_memories : Nat} {sl_Module_memories : Array (Option Value)} (le_Module_memories : K.lookup ce_Module_memories = some ⟨.type "tuple", od_Module_memories, .seq its_Module_memories n_Module_memories, sl_Module_memories⟩) (ze_Module_memories : its_Module_memories.size ≤ sizeLine) (ve_Module_memories : Vals [] its_Module_memories.toList)
    (kq_Module_tags : PySem.W.nsIn K kD_Module "tags" = some (some (.ref ce_Module_tags)))
    {od_Module_tags : Option Addr} {its_Module_tags : Array Value} {n_Module_tags : Nat} {sl_Module_tags : Array (Option Value)} (le_Module_tags : K.lookup ce_Module_tags = some ⟨.type "tuple", od_Module_tags, .seq its_Module_tags n_Module_tags, sl_Module_tags⟩) (ze_Module_tags : its_Module_tags.size ≤ sizeLine) (ve_Module_tags : Vals [] its_Module_tags.toList)
    (kq_Module_variables : PySem.W.nsIn K kD_Module "variables" = some (some (.ref ce_Module_variables)))
    {od_Module_variables : Option Addr} {its_Module_variables : Array Value} {n_Module_variables : Nat} {sl_Module_variables : Array (Option Value)} (le_Module_variables : K.lookup ce_Module_variables = some ⟨.type "tuple", od_Module_variables, .seq its_Module_variables n_Module_variables, sl_Module_variables⟩) (ze_Module_variables : its_Module_variables.size ≤ sizeLine) (ve_Module_variables : Vals [] its_Module_variables.toList)
    (kq_Module_exports : PySem.W.nsIn K kD_Module "exports" = some (some (.ref ce_Module_exports)))
    {od_Module_exports : Option Addr} {its_Module_exports : Array Value} {n_Module_exports : Nat} {sl_Module_exports : Array (Option Value)} (le_Module_exports : K.lookup ce_Module_exports = some ⟨.type "tuple", od_Module_exports, .seq its_Module_exports n_Module_exports, sl_Module_exports⟩) (ze_Module_exports : its_Module_exports.size ≤ sizeLine) (ve_Module_exports : Vals [] its_Module_exports.toList)
    (kq_Module_start : PySem.W.nsIn K kD_Module "start" = some (some .none))
    (kq_Module_table_segments : PySem.W.nsIn K kD_Module "table_segments" = some (some (.ref ce_Module_table_segments)))
    {od_Module_table_segments : Option Addr} {its_Module_table_segments : Array Value} {n_Module_table_segments : Nat} {sl_Module_table_segments : Array (Option Value)} (le_Module_table_segments : K.lookup ce_Module_table_segments = some ⟨.type "tuple", od_Module_table_segments, .seq its_Module_table_segments n_Module_table_segments, sl_Module_table_segments⟩) (ze_Module_table_segments : its_Module_table_segments.size ≤ sizeLine) (ve_Module_table_segments : Vals [] its_Module_table_segments.toList)
    (kq_Module_memory_segments : PySem.W.nsIn K kD_Module "memory_segments" = some (some (.ref ce_Module_memory_segments)))
    {od_Module_memory_segments : Option Addr} {its_Module_memory_segments : Array Value} {n_Module_memory_segments : Nat} {sl_Module_memory_segments : Array (Option Value)} (le_Module_memory_segments : K.lookup ce_Module_memory_segments = some ⟨.type "tuple", od_Module_memory_segments, .seq its_Module_memory_segments n_Module_memory_segments, sl_Module_memory_segments⟩) (ze_Module_memory_segments : its_Module_memory_segments.size ≤ sizeLine) (ve_Module_memory_segments : Vals [] its_Module_memory_segments.toList)
    : ∃ fd : FuncData, (∀ (s : Shared) (v : Value), BindsTo s fd ⟨[v], []⟩ [("script", v)]) ∧ ∀ base : Heap, K.In base → base.Ns mainGlobals mg → FnOk l.prog w K mg base CX0 5 fa fd ["script"] (sp_lawK K) := by
  have e := hfa.symm.trans (PySem.W.mg_of X G a13)
  cases e
  have FI_LimitReached := fun_mk (st := i_LimitReached) lI_LimitReached cdo_LimitReached kI_LimitReached
  have T : Tp w K mg (⟨cC_HostError, cC_LimitReached, cI_LimitReached, (PySem.W.fnOf "__init__" "LimitReached.__init__" (defArgs i_LimitReached) (defBody i_LimitReached) (defScope i_LimitReached) .none kVI_LimitReached dcI_LimitReached pmI_LimitReached anI_LimitReached cdI_LimitReached ctI_LimitReached), cC_Table, cC_Memory, cC_Global, cC_Store, cC_Module, ce_Module_signatures, ce_Module_imports, ce_Module_functions, ce_Module_tables, ce_Module_memories, ce_Module_tags, ce_Module_variables, ce_Module_exports, ce_Module_table_segments, ce_Module_memory_segments⟩ : Cs) := ⟨PySem.W.mg_none_of X G z_bool, PySem.W.mg_none_of X G z_enumerate, PySem.W.mg_none_of X G z_int, PySem.W.mg_none_of X G z_isinstance, PySem.W.mg_none_of X G z_len, PySem.W.mg_none_of X G z_max, PySem.W.mg_none_of X G z_range, PySem.W.mg_none_of X G z_tuple, PySem.W.mg_of X G aC_HostError, PySem.W.mg_of X G aC_LimitReached, ⟨PySem.W.mg_of X G aC_LimitReached, ⟨⟨nm_LimitReached, qn_LimitReached, N_LimitReached, bs_LimitReached, _, sn_LimitReached, sub_LimitReached, ab_LimitReached, col_LimitReached, dd_LimitReached, m0_LimitReached, m1_LimitReached, m2_LimitReached, m3_LimitReached, m5_LimitReached, xl_LimitReached, by rfl⟩, sa_LimitReached, ex_LimitReached, ty_LimitReached, kp_LimitReached⟩, ga_LimitReached, gg_LimitReached, hd_LimitReached, ca_LimitReached, sp0, tk0, mr_LimitReached⟩, aI_LimitReached, tI_LimitReached, FI_LimitReached, FI_LimitReached.binds (ps := ["self", "what"]) fun _ _ _ _ _ _ us hl => match us, hl with | [_, _], _ => rfl, no_LimitReached_what, kit_two ne_LimitReached_HostError hd_HostError ty_HostError sub_LimitReached_HostError, PySem.W.exm_ref ex_HostError hd_HostError ty_HostError sub_LimitReached_HostError, kit_self, PySem.W.exm_ref ex_LimitReached hd_LimitReached ty_LimitReached sub_LimitReached_LimitReached, kit_ve sub_LimitReached_VE, ⟨_, PySem.W.mg_of X G ai_MOST_KINDS⟩, ⟨_, PySem.W.mg_of X G ai_MOST_HOSTS⟩, PySem.W.mg_of X G aC_Table, ⟨pg_Table, hd_Table, po_Table, sa_Table⟩, na_Table_entries, na_Table_most, PySem.W.mg_of X G aC_Memory, ⟨pg_Memory, hd_Memory, po_Memory, sa_Memory⟩, na_Memory_pages, na_Memory_most, na_Memory_cells, PySem.W.mg_of X G aC_Global, ⟨pg_Global, hd_Global, po_Global, sa_Global⟩, na_Global_kind, na_Global_mutable, na_Global_value, PySem.W.mg_of X G aC_Store, ⟨pg_Store, hd_Store, po_Store, sa_Store⟩, na_Store_functions, na_Store_tables, na_Store_memories, na_Store_variables, na_Store_tags, na_Store_instances, PySem.W.mg_of X G aC_Module, ⟨pg_Module, hd_Module, po_Module, sa_Module⟩, na_Module_signatures, na_Module_imports, na_Module_functions, na_Module_tables, na_Module_memories, na_Module_tags, na_Module_variables, na_Module_exports, na_Module_start, na_Module_table_segments, na_Module_memory_segments, ⟨_, _, _, le_Module_signatures, rfl, rfl, ze_Module_signatures, ve_Module_signatures⟩, ⟨_, _, _, le_Module_imports, rfl, rfl, ze_Module_imports, ve_Module_imports⟩, ⟨_, _, _, le_Module_functions, rfl, rfl, ze_Module_functions, ve_Module_functions⟩, ⟨_, _, _, le_Module_tables, rfl, rfl, ze_Module_tables, ve_Module_tables⟩, ⟨_, _, _, le_Module_memories, rfl, rfl, ze_Module_memories, ve_Module_memories⟩, ⟨_, _, _, le_Module_tags, rfl, rfl, ze_Module_tags, ve_Module_tags⟩, ⟨_, _, _, le_Module_variables, rfl, rfl, ze_Module_variables, ve_Module_variables⟩, ⟨_, _, _, le_Module_exports, rfl, rfl, ze_Module_exports, ve_Module_exports⟩, ⟨_, _, _, le_Module_table_segments, rfl, rfl, ze_Module_table_segments, ve_Module_table_segments⟩, ⟨_, _, _, le_Module_memory_segments, rfl, rfl, ze_Module_memory_segments, ve_Module_memory_segments⟩⟩
  have F0 := fun_mk (st := s_items_of) l0 c0 k0
  have D_items_of : Def K mg "items_of" s_items_of ["owner", "kind"] := ⟨_, _, F0, PySem.W.mg_of X G a0, F0.binds (ps := ["owner", "kind"]) fun _ _ _ _ _ _ us hl => match us, hl with | [_, _], _ => rfl⟩
  have F1 := fun_mk (st := s_host_functions) l1 c1 k1
  have D_host_functions : Def K mg "host_functions" s_host_functions ["store"] := ⟨_, _, F1, PySem.W.mg_of X G a1, F1.binds (ps := ["store"]) fun _ _ _ _ _ _ us hl => match us, hl with | [_], _ => rfl⟩
  have F2 := fun_mk (st := s_check_signature) l2 c2 k2
  have D_check_signature : Def K mg "check_signature" s_check_signature ["params", "results"] := ⟨_, _, F2, PySem.W.mg_of X G a2, F2.binds (ps := ["params", "results"]) fun _ _ _ _ _ _ us hl => match us, hl with | [_, _], _ => rfl⟩
  have F3 := fun_mk (st := s_add_host) l3 c3 k3
  have D_add_host : Def K mg "add_host" s_add_host ["store", "params", "results"] := ⟨_, _, F3, PySem.W.mg_of X G a3, F3.binds (ps := ["store", "params", "results"]) fun _ _ _ _ _ _ us hl => match us, hl with | [_, _, _], _ => rfl⟩
  have F4 := fun_mk (st := s_size_fits) l4 c4 k4
  have D_size_fits : Def K mg "size_fits" s_size_fits ["size", "most", "limit"] := ⟨_, _, F4, PySem.W.mg_of X G a4, F4.binds (ps := ["size", "most", "limit"]) fun _ _ _ _ _ _ us hl => match us, hl with | [_, _, _], _ => rfl⟩
  have F5 := fun_mk (st := s_item_fits) l5 c5 k5
  have D_item_fits : Def K mg "item_fits" s_item_fits ["store", "module", "row", "number"] := ⟨_, _, F5, PySem.W.mg_of X G a5, F5.binds (ps := ["store", "module", "row", "number"]) fun _ _ _ _ _ _ us hl => match us, hl with | [_, _, _, _], _ => rfl⟩
  have F6 := fun_mk (st := s__law_tape) l6 c6 k6
  have D__law_tape : Def K mg "_law_tape" s__law_tape ["script"] := ⟨_, _, F6, PySem.W.mg_of X G a6, F6.binds (ps := ["script"]) fun _ _ _ _ _ _ us hl => match us, hl with | [_], _ => rfl⟩
  have F7 := fun_mk (st := s__law_draw) l7 c7 k7
  have D__law_draw : Def K mg "_law_draw" s__law_draw ["tape", "at", "many"] := ⟨_, _, F7, PySem.W.mg_of X G a7, F7.binds (ps := ["tape", "at", "many"]) fun _ _ _ _ _ _ us hl => match us, hl with | [_, _, _], _ => rfl⟩
  have F8 := fun_mk (st := s__law_says) l8 c8 k8
  have D__law_says : Def K mg "_law_says" s__law_says ["actual", "due"] := ⟨_, _, F8, PySem.W.mg_of X G a8, F8.binds (ps := ["actual", "due"]) fun _ _ _ _ _ _ us hl => match us, hl with | [_, _], _ => rfl⟩
  have F9 := fun_mk (st := s__law_signature) l9 c9 k9
  have D__law_signature : Def K mg "_law_signature" s__law_signature ["tape", "at"] := ⟨_, _, F9, PySem.W.mg_of X G a9, F9.binds (ps := ["tape", "at"]) fun _ _ _ _ _ _ us hl => match us, hl with | [_, _], _ => rfl⟩
  have F10 := fun_mk (st := s__law_near) l10 c10 k10
  have D__law_near : Def K mg "_law_near" s__law_near ["tape", "at", "size"] := ⟨_, _, F10, PySem.W.mg_of X G a10, F10.binds (ps := ["tape", "at", "size"]) fun _ _ _ _ _ _ us hl => match us, hl with | [_, _, _], _ => rfl⟩
  have F11 := fun_mk (st := s__law_limit) l11 c11 k11
  have D__law_limit : Def K mg "_law_limit" s__law_limit ["tape", "at", "size", "most"] := ⟨_, _, F11, PySem.W.mg_of X G a11, F11.binds (ps := ["tape", "at", "size", "most"]) fun _ _ _ _ _ _ us hl => match us, hl with | [_, _, _, _], _ => rfl⟩
  have F12 := fun_mk (st := s__law_limit_fits) l12 c12 k12
  have D__law_limit_fits : Def K mg "_law_limit_fits" s__law_limit_fits ["size", "most", "limit"] := ⟨_, _, F12, PySem.W.mg_of X G a12, F12.binds (ps := ["size", "most", "limit"]) fun _ _ _ _ _ _ us hl => match us, hl with | [_, _, _], _ => rfl⟩
  have F13 := fun_mk (st := s_law) l13 c13 k13
  have F14 := fun_mk (st := s_Table___init__) l14 c14 k14
  have D_Table___init__ : DefI K (Cs.C_Table (⟨cC_HostError, cC_LimitReached, cI_LimitReached, (PySem.W.fnOf "__init__" "LimitReached.__init__" (defArgs i_LimitReached) (defBody i_LimitReached) (defScope i_LimitReached) .none kVI_LimitReached dcI_LimitReached pmI_LimitReached anI_LimitReached cdI_LimitReached ctI_LimitReached), cC_Table, cC_Memory, cC_Global, cC_Store, cC_Module, ce_Module_signatures, ce_Module_imports, ce_Module_functions, ce_Module_tables, ce_Module_memories, ce_Module_tags, ce_Module_variables, ce_Module_exports, ce_Module_table_segments, ce_Module_memory_segments⟩ : Cs)) "Table.__init__" s_Table___init__ ["self", "size", "most"] := ⟨_, _, F14, ⟨mk_Table, am14, im14, kc_Table⟩, F14.binds (ps := ["self", "size", "most"]) fun _ _ _ _ _ _ us hl => match us, hl with | [_, _, _], _ => rfl⟩
  have F15 := fun_mk (st := s_Memory___init__) l15 c15 k15
  have D_Memory___init__ : DefI K (Cs.C_Memory (⟨cC_HostError, cC_LimitReached, cI_LimitReached, (PySem.W.fnOf "__init__" "LimitReached.__init__" (defArgs i_LimitReached) (defBody i_LimitReached) (defScope i_LimitReached) .none kVI_LimitReached dcI_LimitReached pmI_LimitReached anI_LimitReached cdI_LimitReached ctI_LimitReached), cC_Table, cC_Memory, cC_Global, cC_Store, cC_Module, ce_Module_signatures, ce_Module_imports, ce_Module_functions, ce_Module_tables, ce_Module_memories, ce_Module_tags, ce_Module_variables, ce_Module_exports, ce_Module_table_segments, ce_Module_memory_segments⟩ : Cs)) "Memory.__init__" s_Memory___init__ ["self", "pages", "most"] := ⟨_, _, F15, ⟨mk_Memory, am15, im15, kc_Memory⟩, F15.binds (ps := ["self", "pages", "most"]) fun _ _ _ _ _ _ us hl => match us, hl with | [_, _, _], _ => rfl⟩
  have F16 := fun_mk (st := s_Global___init__) l16 c16 k16
  have D_Global___init__ : DefI K (Cs.C_Global (⟨cC_HostError, cC_LimitReached, cI_LimitReached, (PySem.W.fnOf "__init__" "LimitReached.__init__" (defArgs i_LimitReached) (defBody i_LimitReached) (defScope i_LimitReached) .none kVI_LimitReached dcI_LimitReached pmI_LimitReached anI_LimitReached cdI_LimitReached ctI_LimitReached), cC_Table, cC_Memory, cC_Global, cC_Store, cC_Module, ce_Module_signatures, ce_Module_imports, ce_Module_functions, ce_Module_tables, ce_Module_memories, ce_Module_tags, ce_Module_variables, ce_Module_exports, ce_Module_table_segments, ce_Module_memory_segments⟩ : Cs)) "Global.__init__" s_Global___init__ ["self", "kind", "mutable", "value"] := ⟨_, _, F16, ⟨mk_Global, am16, im16, kc_Global⟩, F16.binds (ps := ["self", "kind", "mutable", "value"]) fun _ _ _ _ _ _ us hl => match us, hl with | [_, _, _, _], _ => rfl⟩
  have F17 := fun_mk (st := s_Store___init__) l17 c17 k17
  have D_Store___init__ : DefI K (Cs.C_Store (⟨cC_HostError, cC_LimitReached, cI_LimitReached, (PySem.W.fnOf "__init__" "LimitReached.__init__" (defArgs i_LimitReached) (defBody i_LimitReached) (defScope i_LimitReached) .none kVI_LimitReached dcI_LimitReached pmI_LimitReached anI_LimitReached cdI_LimitReached ctI_LimitReached), cC_Table, cC_Memory, cC_Global, cC_Store, cC_Module, ce_Module_signatures, ce_Module_imports, ce_Module_functions, ce_Module_tables, ce_Module_memories, ce_Module_tags, ce_Module_variables, ce_Module_exports, ce_Module_table_segments, ce_Module_memory_segments⟩ : Cs)) "Store.__init__" s_Store___init__ ["self"] := ⟨_, _, F17, ⟨mk_Store, am17, im17, kc_Store⟩, F17.binds (ps := ["self"]) fun _ _ _ _ _ _ us hl => match us, hl with | [_], _ => rfl⟩
  have D_Module___init__ : DefK K (Cs.C_Module (⟨cC_HostError, cC_LimitReached, cI_LimitReached, (PySem.W.fnOf "__init__" "LimitReached.__init__" (defArgs i_LimitReached) (defBody i_LimitReached) (defScope i_LimitReached) .none kVI_LimitReached dcI_LimitReached pmI_LimitReached anI_LimitReached cdI_LimitReached ctI_LimitReached), cC_Table, cC_Memory, cC_Global, cC_Store, cC_Module, ce_Module_signatures, ce_Module_imports, ce_Module_functions, ce_Module_tables, ce_Module_memories, ce_Module_tags, ce_Module_variables, ce_Module_exports, ce_Module_table_segments, ce_Module_memory_segments⟩ : Cs)) "Module.__init__" s_Module___init__ (kws_Module (⟨cC_HostError, cC_LimitReached, cI_LimitReached, (PySem.W.fnOf "__init__" "LimitReached.__init__" (defArgs i_LimitReached) (defBody i_LimitReached) (defScope i_LimitReached) .none kVI_LimitReached dcI_LimitReached pmI_LimitReached anI_LimitReached cdI_LimitReached ctI_LimitReached), cC_Table, cC_Memory, cC_Global, cC_Store, cC_Module, ce_Module_signatures, ce_Module_imports, ce_Module_functions, ce_Module_tables, ce_Module_memories, ce_Module_tags, ce_Module_variables, ce_Module_exports, ce_Module_table_segments, ce_Module_memory_segments⟩ : Cs)) := ⟨_, _, ⟨⟨_, _, _, _, _, _, _, _, _, _, rfl, l18, c18, .inl ⟨rfl, rfl⟩, .inr ⟨kD_Module, rfl, fun q hq => by
    unfold kws_Module at hq
    simp only [List.mem_cons, List.not_mem_nil, or_false] at hq
    rcases hq with rfl | rfl | rfl | rfl | rfl | rfl | rfl | rfl | rfl | rfl | rfl
    · exact ⟨_, kq_Module_signatures, rfl⟩
    · exact ⟨_, kq_Module_imports, rfl⟩
    · exact ⟨_, kq_Module_functions, rfl⟩
    · exact ⟨_, kq_Module_tables, rfl⟩
    · exact ⟨_, kq_Module_memories, rfl⟩
    · exact ⟨_, kq_Module_tags, rfl⟩
    · exact ⟨_, kq_Module_variables, rfl⟩
    · exact ⟨_, kq_Module_exports, rfl⟩
    · exact ⟨_, kq_Module_start, rfl⟩
    · exact ⟨_, kq_Module_table_segments, rfl⟩
    · exact ⟨_, kq_Module_memory_segments, rfl⟩
    ⟩⟩, k18⟩, ⟨mk_Module, am18, im18, kc_Module⟩⟩
  refine ⟨PySem.W.fnOf "law" "law" (defArgs s_law) (defBody s_law) (defScope s_law) .none kV13 dc13 pm13 an13 cd13 ct13, fun s v => .of_eq rfl, fun base _ _ => ?_⟩
  have C__law_tape : Cal l.prog w K mg base CX0 1 "_law_tape" (sp__law_tape K (⟨cC_HostError, cC_LimitReached, cI_LimitReached, (PySem.W.fnOf "__init__" "LimitReached.__init__" (defArgs i_LimitReached) (defBody i_LimitReached) (defScope i_LimitReached) .none kVI_LimitReached dcI_LimitReached pmI_LimitReached anI_LimitReached cdI_LimitReached ctI_LimitReached), cC_Table, cC_Memory, cC_Global, cC_Store, cC_Module, ce_Module_signatures, ce_Module_imports, ce_Module_functions, ce_Module_tables, ce_Module_memories, ce_Module_tags, ce_Module_variables, ce_Module_exports, ce_Module_table_segments, ce_Module_memory_segments⟩ : Cs)) := c__law_tape D__law_tape T 
  have C_Store___init__ : CalI l.prog w K mg base CX0 (Cs.C_Store (⟨cC_HostError, cC_LimitReached, cI_LimitReached, (PySem.W.fnOf "__init__" "LimitReached.__init__" (defArgs i_LimitReached) (defBody i_LimitReached) (defScope i_LimitReached) .none kVI_LimitReached dcI_LimitReached pmI_LimitReached anI_LimitReached cdI_LimitReached ctI_LimitReached), cC_Table, cC_Memory, cC_Global, cC_Store, cC_Module, ce_Module_signatures, ce_Module_imports, ce_Module_functions, ce_Module_tables, ce_Module_memories, ce_Module_tags, ce_Module_variables, ce_Module_exports, ce_Module_table_segments, ce_Module_memory_segments⟩ : Cs)) 1 (sp_Store___init__ K (⟨cC_HostError, cC_LimitReached, cI_LimitReached, (PySem.W.fnOf "__init__" "LimitReached.__init__" (defArgs i_LimitReached) (defBody i_LimitReached) (defScope i_LimitReached) .none kVI_LimitReached dcI_LimitReached pmI_LimitReached anI_LimitReached cdI_LimitReached ctI_LimitReached), cC_Table, cC_Memory, cC_Global, cC_Store, cC_Module, ce_Module_signatures, ce_Module_imports, ce_Module_functions, ce_Module_tables, ce_Module_memories, ce_Module_tags, ce_Module_variables, ce_Module_exports, ce_Module_table_segments, ce_Module_memory_segments⟩ : Cs)) := c_Store___init__ D_Store___init__ T 
  have C_check_signature : Cal l.prog w K mg base (L2.CX l.prog w) 3 "check_signature" (sp_check_signature K (⟨cC_HostError, cC_LimitReached, cI_LimitReached, (PySem.W.fnOf "__init__" "LimitReached.__init__" (defArgs i_LimitReached) (defBody i_LimitReached) (defScope i_LimitReached) .none kVI_LimitReached dcI_LimitReached pmI_LimitReached anI_LimitReached cdI_LimitReached ctI_LimitReached), cC_Table, cC_Memory, cC_Global, cC_Store, cC_Module, ce_Module_signatures, ce_Module_imports, ce_Module_functions, ce_Module_tables, ce_Module_memories, ce_Module_tags, ce_Module_variables, ce_Module_exports, ce_Module_table_segments, ce_Module_memory_segments⟩ : Cs)) := c_check_signature D_check_signature T 
  have C_host_functions : Cal l.prog w K mg base CX0 1 "host_functions" (sp_host_functions K (⟨cC_HostError, cC_LimitReached, cI_LimitReached, (PySem.W.fnOf "__init__" "LimitReached.__init__" (defArgs i_LimitReached) (defBody i_LimitReached) (defScope i_LimitReached) .none kVI_LimitReached dcI_LimitReached pmI_LimitReached anI_LimitReached cdI_LimitReached ctI_LimitReached), cC_Table, cC_Memory, cC_Global, cC_Store, cC_Module, ce_Module_signatures, ce_Module_imports, ce_Module_functions, ce_Module_tables, ce_Module_memories, ce_Module_tags, ce_Module_variables, ce_Module_exports, ce_Module_table_segments, ce_Module_memory_segments⟩ : Cs)) := c_host_functions D_host_functions T 
  have C_add_host : Cal l.prog w K mg base (L2.CX l.prog w) 4 "add_host" (sp_add_host K (⟨cC_HostError, cC_LimitReached, cI_LimitReached, (PySem.W.fnOf "__init__" "LimitReached.__init__" (defArgs i_LimitReached) (defBody i_LimitReached) (defScope i_LimitReached) .none kVI_LimitReached dcI_LimitReached pmI_LimitReached anI_LimitReached cdI_LimitReached ctI_LimitReached), cC_Table, cC_Memory, cC_Global, cC_Store, cC_Module, ce_Module_signatures, ce_Module_imports, ce_Module_functions, ce_Module_tables, ce_Module_memories, ce_Module_tags, ce_Module_variables, ce_Module_exports, ce_Module_table_segments, ce_Module_memory_segments⟩ : Cs)) := c_add_host D_add_host T C_check_signature C_host_functions
  have C__law_draw : Cal l.prog w K mg base CX0 1 "_law_draw" (sp__law_draw K (⟨cC_HostError, cC_LimitReached, cI_LimitReached, (PySem.W.fnOf "__init__" "LimitReached.__init__" (defArgs i_LimitReached) (defBody i_LimitReached) (defScope i_LimitReached) .none kVI_LimitReached dcI_LimitReached pmI_LimitReached anI_LimitReached cdI_LimitReached ctI_LimitReached), cC_Table, cC_Memory, cC_Global, cC_Store, cC_Module, ce_Module_signatures, ce_Module_imports, ce_Module_functions, ce_Module_tables, ce_Module_memories, ce_Module_tags, ce_Module_variables, ce_Module_exports, ce_Module_table_segments, ce_Module_memory_segments⟩ : Cs)) := c__law_draw D__law_draw T 
  have C_Module___init__ : CalK l.prog w K mg base CX0 (Cs.C_Module (⟨cC_HostError, cC_LimitReached, cI_LimitReached, (PySem.W.fnOf "__init__" "LimitReached.__init__" (defArgs i_LimitReached) (defBody i_LimitReached) (defScope i_LimitReached) .none kVI_LimitReached dcI_LimitReached pmI_LimitReached anI_LimitReached cdI_LimitReached ctI_LimitReached), cC_Table, cC_Memory, cC_Global, cC_Store, cC_Module, ce_Module_signatures, ce_Module_imports, ce_Module_functions, ce_Module_tables, ce_Module_memories, ce_Module_tags, ce_Module_variables, ce_Module_exports, ce_Module_table_segments, ce_Module_memory_segments⟩ : Cs)) 1 (sp_Module___init__ K (⟨cC_HostError, cC_LimitReached, cI_LimitReached, (PySem.W.fnOf "__init__" "LimitReached.__init__" (defArgs i_LimitReached) (defBody i_LimitReached) (defScope i_LimitReached) .none kVI_LimitReached dcI_LimitReached pmI_LimitReached anI_LimitReached cdI_LimitReached ctI_LimitReached), cC_Table, cC_Memory, cC_Global, cC_Store, cC_Module, ce_Module_signatures, ce_Module_imports, ce_Module_functions, ce_Module_tables, ce_Module_memories, ce_Module_tags, ce_Module_variables, ce_Module_exports, ce_Module_table_segments, ce_Module_memory_segments⟩ : Cs)) ["signatures"] (fun vs zs => vs ++ (zs ++ (ms_Module (⟨cC_HostError, cC_LimitReached, cI_LimitReached, (PySem.W.fnOf "__init__" "LimitReached.__init__" (defArgs i_LimitReached) (defBody i_LimitReached) (defScope i_LimitReached) .none kVI_LimitReached dcI_LimitReached pmI_LimitReached anI_LimitReached cdI_LimitReached ctI_LimitReached), cC_Table, cC_Memory, cC_Global, cC_Store, cC_Module, ce_Module_signatures, ce_Module_imports, ce_Module_functions, ce_Module_tables, ce_Module_memories, ce_Module_tags, ce_Module_variables, ce_Module_exports, ce_Module_table_segments, ce_Module_memory_segments⟩ : Cs)).map (·.2))) := c_Module___init__ D_Module___init__ T 
  have C__law_signature : Cal l.prog w K mg base CX0 2 "_law_signature" (sp__law_signature K (⟨cC_HostError, cC_LimitReached, cI_LimitReached, (PySem.W.fnOf "__init__" "LimitReached.__init__" (defArgs i_LimitReached) (defBody i_LimitReached) (defScope i_LimitReached) .none kVI_LimitReached dcI_LimitReached pmI_LimitReached anI_LimitReached cdI_LimitReached ctI_LimitReached), cC_Table, cC_Memory, cC_Global, cC_Store, cC_Module, ce_Module_signatures, ce_Module_imports, ce_Module_functions, ce_Module_tables, ce_Module_memories, ce_Module_tags, ce_Module_variables, ce_Module_exports, ce_Module_table_segments, ce_Module_memory_segments⟩ : Cs)) := c__law_signature D__law_signature T C__law_draw
  have C_Table___init__ : CalI l.prog w K mg base CX0 (Cs.C_Table (⟨cC_HostError, cC_LimitReached, cI_LimitReached, (PySem.W.fnOf "__init__" "LimitReached.__init__" (defArgs i_LimitReached) (defBody i_LimitReached) (defScope i_LimitReached) .none kVI_LimitReached dcI_LimitReached pmI_LimitReached anI_LimitReached cdI_LimitReached ctI_LimitReached), cC_Table, cC_Memory, cC_Global, cC_Store, cC_Module, ce_Module_signatures, ce_Module_imports, ce_Module_functions, ce_Module_tables, ce_Module_memories, ce_Module_tags, ce_Module_variables, ce_Module_exports, ce_Module_table_segments, ce_Module_memory_segments⟩ : Cs)) 1 (sp_Table___init__ K (⟨cC_HostError, cC_LimitReached, cI_LimitReached, (PySem.W.fnOf "__init__" "LimitReached.__init__" (defArgs i_LimitReached) (defBody i_LimitReached) (defScope i_LimitReached) .none kVI_LimitReached dcI_LimitReached pmI_LimitReached anI_LimitReached cdI_LimitReached ctI_LimitReached), cC_Table, cC_Memory, cC_Global, cC_Store, cC_Module, ce_Module_signatures, ce_Module_imports, ce_Module_functions, ce_Module_tables, ce_Module_memories, ce_Module_tags, ce_Module_variables, ce_Module_exports, ce_Module_table_segments, ce_Module_memory_segments⟩ : Cs)) := c_Table___init__ D_Table___init__ T 
  have C_Memory___init__ : CalI l.prog w K mg base CX0 (Cs.C_Memory (⟨cC_HostError, cC_LimitReached, cI_LimitReached, (PySem.W.fnOf "__init__" "LimitReached.__init__" (defArgs i_LimitReached) (defBody i_LimitReached) (defScope i_LimitReached) .none kVI_LimitReached dcI_LimitReached pmI_LimitReached anI_LimitReached cdI_LimitReached ctI_LimitReached), cC_Table, cC_Memory, cC_Global, cC_Store, cC_Module, ce_Module_signatures, ce_Module_imports, ce_Module_functions, ce_Module_tables, ce_Module_memories, ce_Module_tags, ce_Module_variables, ce_Module_exports, ce_Module_table_segments, ce_Module_memory_segments⟩ : Cs)) 1 (sp_Memory___init__ K (⟨cC_HostError, cC_LimitReached, cI_LimitReached, (PySem.W.fnOf "__init__" "LimitReached.__init__" (defArgs i_LimitReached) (defBody i_LimitReached) (defScope i_LimitReached) .none kVI_LimitReached dcI_LimitReached pmI_LimitReached anI_LimitReached cdI_LimitReached ctI_LimitReached), cC_Table, cC_Memory, cC_Global, cC_Store, cC_Module, ce_Module_signatures, ce_Module_imports, ce_Module_functions, ce_Module_tables, ce_Module_memories, ce_Module_tags, ce_Module_variables, ce_Module_exports, ce_Module_table_segments, ce_Module_memory_segments⟩ : Cs)) := c_Memory___init__ D_Memory___init__ T 
  have C_Global___init__ : CalI l.prog w K mg base CX0 (Cs.C_Global (⟨cC_HostError, cC_LimitReached, cI_LimitReached, (PySem.W.fnOf "__init__" "LimitReached.__init__" (defArgs i_LimitReached) (defBody i_LimitReached) (defScope i_LimitReached) .none kVI_LimitReached dcI_LimitReached pmI_LimitReached anI_LimitReached cdI_LimitReached ctI_LimitReached), cC_Table, cC_Memory, cC_Global, cC_Store, cC_Module, ce_Module_signatures, ce_Module_imports, ce_Module_functions, ce_Module_tables, ce_Module_memories, ce_Module_tags, ce_Module_variables, ce_Module_exports, ce_Module_table_segments, ce_Module_memory_segments⟩ : Cs)) 1 (sp_Global___init__ K (⟨cC_HostError, cC_LimitReached, cI_LimitReached, (PySem.W.fnOf "__init__" "LimitReached.__init__" (defArgs i_LimitReached) (defBody i_LimitReached) (defScope i_LimitReached) .none kVI_LimitReached dcI_LimitReached pmI_LimitReached anI_LimitReached cdI_LimitReached ctI_LimitReached), cC_Table, cC_Memory, cC_Global, cC_Store, cC_Module, ce_Module_signatures, ce_Module_imports, ce_Module_functions, ce_Module_tables, ce_Module_memories, ce_Module_tags, ce_Module_variables, ce_Module_exports, ce_Module_table_segments, ce_Module_memory_segments⟩ : Cs)) := c_Global___init__ D_Global___init__ T 
  have C__law_near : Cal l.prog w K mg base CX0 2 "_law_near" (sp__law_near K (⟨cC_HostError, cC_LimitReached, cI_LimitReached, (PySem.W.fnOf "__init__" "LimitReached.__init__" (defArgs i_LimitReached) (defBody i_LimitReached) (defScope i_LimitReached) .none kVI_LimitReached dcI_LimitReached pmI_LimitReached anI_LimitReached cdI_LimitReached ctI_LimitReached), cC_Table, cC_Memory, cC_Global, cC_Store, cC_Module, ce_Module_signatures, ce_Module_imports, ce_Module_functions, ce_Module_tables, ce_Module_memories, ce_Module_tags, ce_Module_variables, ce_Module_exports, ce_Module_table_segments, ce_Module_memory_segments⟩ : Cs)) := c__law_near D__law_near T C__law_draw
  have C__law_limit : Cal l.prog w K mg base CX0 3 "_law_limit" (sp__law_limit K (⟨cC_HostError, cC_LimitReached, cI_LimitReached, (PySem.W.fnOf "__init__" "LimitReached.__init__" (defArgs i_LimitReached) (defBody i_LimitReached) (defScope i_LimitReached) .none kVI_LimitReached dcI_LimitReached pmI_LimitReached anI_LimitReached cdI_LimitReached ctI_LimitReached), cC_Table, cC_Memory, cC_Global, cC_Store, cC_Module, ce_Module_signatures, ce_Module_imports, ce_Module_functions, ce_Module_tables, ce_Module_memories, ce_Module_tags, ce_Module_variables, ce_Module_exports, ce_Module_table_segments, ce_Module_memory_segments⟩ : Cs)) := c__law_limit D__law_limit T C__law_near C__law_draw
  have C__law_limit_fits : Cal l.prog w K mg base CX0 1 "_law_limit_fits" (sp__law_limit_fits K (⟨cC_HostError, cC_LimitReached, cI_LimitReached, (PySem.W.fnOf "__init__" "LimitReached.__init__" (defArgs i_LimitReached) (defBody i_LimitReached) (defScope i_LimitReached) .none kVI_LimitReached dcI_LimitReached pmI_LimitReached anI_LimitReached cdI_LimitReached ctI_LimitReached), cC_Table, cC_Memory, cC_Global, cC_Store, cC_Module, ce_Module_signatures, ce_Module_imports, ce_Module_functions, ce_Module_tables, ce_Module_memories, ce_Module_tags, ce_Module_variables, ce_Module_exports, ce_Module_table_segments, ce_Module_memory_segments⟩ : Cs)) := c__law_limit_fits D__law_limit_fits T 
  have C__law_says : Cal l.prog w K mg base CX0 1 "_law_says" (sp__law_says K (⟨cC_HostError, cC_LimitReached, cI_LimitReached, (PySem.W.fnOf "__init__" "LimitReached.__init__" (defArgs i_LimitReached) (defBody i_LimitReached) (defScope i_LimitReached) .none kVI_LimitReached dcI_LimitReached pmI_LimitReached anI_LimitReached cdI_LimitReached ctI_LimitReached), cC_Table, cC_Memory, cC_Global, cC_Store, cC_Module, ce_Module_signatures, ce_Module_imports, ce_Module_functions, ce_Module_tables, ce_Module_memories, ce_Module_tags, ce_Module_variables, ce_Module_exports, ce_Module_table_segments, ce_Module_memory_segments⟩ : Cs)) := c__law_says D__law_says T 
  have C_size_fits : Cal l.prog w K mg base CX0 1 "size_fits" (sp_size_fits K (⟨cC_HostError, cC_LimitReached, cI_LimitReached, (PySem.W.fnOf "__init__" "LimitReached.__init__" (defArgs i_LimitReached) (defBody i_LimitReached) (defScope i_LimitReached) .none kVI_LimitReached dcI_LimitReached pmI_LimitReached anI_LimitReached cdI_LimitReached ctI_LimitReached), cC_Table, cC_Memory, cC_Global, cC_Store, cC_Module, ce_Module_signatures, ce_Module_imports, ce_Module_functions, ce_Module_tables, ce_Module_memories, ce_Module_tags, ce_Module_variables, ce_Module_exports, ce_Module_table_segments, ce_Module_memory_segments⟩ : Cs)) := c_size_fits D_size_fits T 
  have C_items_of : Cal l.prog w K mg base CX0 1 "items_of" (sp_items_of K (⟨cC_HostError, cC_LimitReached, cI_LimitReached, (PySem.W.fnOf "__init__" "LimitReached.__init__" (defArgs i_LimitReached) (defBody i_LimitReached) (defScope i_LimitReached) .none kVI_LimitReached dcI_LimitReached pmI_LimitReached anI_LimitReached cdI_LimitReached ctI_LimitReached), cC_Table, cC_Memory, cC_Global, cC_Store, cC_Module, ce_Module_signatures, ce_Module_imports, ce_Module_functions, ce_Module_tables, ce_Module_memories, ce_Module_tags, ce_Module_variables, ce_Module_exports, ce_Module_table_segments, ce_Module_memory_segments⟩ : Cs)) := c_items_of D_items_of T 
  have C_item_fits : Cal l.prog w K mg base CX0 2 "item_fits" (sp_item_fits K (⟨cC_HostError, cC_LimitReached, cI_LimitReached, (PySem.W.fnOf "__init__" "LimitReached.__init__" (defArgs i_LimitReached) (defBody i_LimitReached) (defScope i_LimitReached) .none kVI_LimitReached dcI_LimitReached pmI_LimitReached anI_LimitReached cdI_LimitReached ctI_LimitReached), cC_Table, cC_Memory, cC_Global, cC_Store, cC_Module, ce_Module_signatures, ce_Module_imports, ce_Module_functions, ce_Module_tables, ce_Module_memories, ce_Module_tags, ce_Module_variables, ce_Module_exports, ce_Module_table_segments, ce_Module_memory_segments⟩ : Cs)) := c_item_fits D_item_fits T C_size_fits C_items_of
  exact c_law F13 T C__law_tape C_Store___init__ C_add_host C__law_draw C_Module___init__ C__law_signature C_Table___init__ C_Memory___init__ C_Global___init__ C__law_limit C__law_limit_fits C__law_says C_item_fits
theorem walk {l : PySem.W.OpenLaw} {q : Program} {loose : List Str} {XP : (Str → Option Value) → Heap → Prop} {YP : World → Heap → Prop} {d : DefRec} {K : Params → PySem.W.Frag} (hn : l.most = some 63) (hdf : d.params.defaults = [])
    (hY : ∀ (w : World) (h : Heap), YP w h → (K w.params).In h)
    (F : ∀ (w : World) (mg : Str → Option Value) (fa : Addr) (h : Heap), (K w.params).In h → h.Ns mainGlobals mg → mg d.name = some (.ref fa) →
      ∃ fd : FuncData, (∀ (s : Shared) (u : Value), BindsTo s fd ⟨[u], []⟩ [("script", u)]) ∧ ∀ base : Heap, (K w.params).In base → base.Ns mainGlobals mg → FnOk l.prog w (K w.params) mg base CX0 5 fa fd ["script"] (sp_lawK (K w.params))) :
    PySem.W.WalkO q loose XP YP l.row.toRowW d [] (fun f vs => PySem.call f vs) :=
  L2.walk_of (n := 63) (k := 5) (x := "script") (CX := fun _ => CX0) (sp := fun w => sp_lawK (K w.params)) hn (by decide) hdf ⟨rfl, by decide, by decide⟩ hY F (fun _ _ a ns hl _ hS => ⟨a, ns, rfl, hS, hl, fun _ => rfl⟩) fun _ _ _ _ _ z => z
end V
open PySem PySem.W PyProof.Rows
set_option maxRecDepth 100000 in
set_option maxHeartbeats 0 in
theorem PySem.Challenge.cw_wasmhost_k43_items_fit_imports_holds : PySem.Challenge.rw_wasmhost_k43_items_fit_imports.Holds := by
  w_on; o_law
  refine HandSHeadRun.head_any (r := Hd.R) (q := Hd.qv) (H := Hd.HK) (ob := Hd.ob) (M := 9000) (loose := Hd.names) Hd.ob_eq Hd.opn Hd.fen Hd.run (by rfl) (by rfl) (by rfl) (by rfl) (by first | assumption | decide +kernel) (by decide +kernel) ⟨rfl, rfl, rfl, rfl, rfl, by decide +kernel⟩ ?hw ?hc
  (case hw => w_witness2)
  refine V.walk (l := PySem.Challenge.rw_wasmhost_k43_items_fit_imports) rfl rfl (fun w h Y => PySem.W.kIn_of Y) ?F
  case F =>
    intro w mg fa h KX G hmg
    refine' V.all_mk KX G hmg ?a0 ?l0 ?c0 ?k0 ?a1 ?l1 ?c1 ?k1 ?a2 ?l2 ?c2 ?k2 ?a3 ?l3 ?c3 ?k3 ?a4 ?l4 ?c4 ?k4 ?a5 ?l5 ?c5 ?k5 ?a6 ?l6 ?c6 ?k6 ?a7 ?l7 ?c7 ?k7 ?a8 ?l8 ?c8 ?k8 ?a9 ?l9 ?c9 ?k9 ?a10 ?l10 ?c10 ?k10 ?a11 ?l11 ?c11 ?k11 ?a12 ?l12 ?c12 ?k12 ?a13 ?l13 ?c13 ?k13 ?z_bool ?z_enumerate ?z_int ?z_isinstance ?z_len ?z_max ?z_range ?z_tuple ?sp0 ?tk0 ?aC_HostError ?aC_LimitReached ?ex_HostError ?ty_HostError ?hd_HostError ?ex_LimitReached ?ty_LimitReached ?hd_LimitReached ?xl_LimitReached ?sa_LimitReached ?ga_LimitReached ?gg_LimitReached ?ca_LimitReached ?kp_LimitReached ?mr_LimitReached ?aI_LimitReached ?tI_LimitReached ?lI_LimitReached ?cdo_LimitReached ?kI_LimitReached ?no_LimitReached_what ?sub_LimitReached_HostError ?ne_LimitReached_HostError ?sub_LimitReached_LimitReached ?sub_LimitReached_VE ?aC_Table ?aC_Memory ?aC_Global ?aC_Store ?aC_Module ?ai_MOST_KINDS ?ai_MOST_HOSTS ?pg_Table ?hd_Table ?po_Table ?sa_Table ?mk_Table ?kc_Table ?na_Table_entries ?na_Table_most ?am14 ?im14 ?l14 ?c14 ?k14 ?pg_Memory ?hd_Memory ?po_Memory ?sa_Memory ?mk_Memory ?kc_Memory ?na_Memory_pages ?na_Memory_most ?na_Memory_cells ?am15 ?im15 ?l15 ?c15 ?k15 ?pg_Global ?hd_Global ?po_Global ?sa_Global ?mk_Global ?kc_Global ?na_Global_kind ?na_Global_mutable ?na_Global_value ?am16 ?im16 ?l16 ?c16 ?k16 ?pg_Store ?hd_Store ?po_Store ?sa_Store ?mk_Store ?kc_Store ?na_Store_functions ?na_Store_tables ?na_Store_memories ?na_Store_variables ?na_Store_tags ?na_Store_instances ?am17 ?im17 ?l17 ?c17 ?k17 ?pg_Module ?hd_Module ?po_Module ?sa_Module ?mk_Module ?kc_Module ?na_Module_signatures ?na_Module_imports ?na_Module_functions ?na_Module_tables ?na_Module_memories ?na_Module_tags ?na_Module_variables ?na_Module_exports ?na_Module_start ?na_Module_table_segments ?na_Module_memory_segments ?am18 ?im18 ?l18 ?c18 ?k18 ?kq_Module_signatures ?le_Module_signatures ?ze_Module_signatures ?ve_Module_signatures ?kq_Module_imports ?le_Module_imports ?ze_Module_imports ?ve_Module_imports ?kq_Module_functions ?le_Module_functions ?ze_Module_functions ?ve_Module_functions ?kq_Module_tables ?le_Module_tables ?ze_Module_tables ?ve_Module_tables ?kq_Module_memories ?le_Module_memories ?ze_Module_memories ?ve_Module_memories ?kq_Module_tags ?le_Module_tags ?ze_Module_tags ?ve_Module_tags ?kq_Module_variables ?le_Module_variables ?ze_Module_variables ?ve_Module_variables ?kq_Module_exports ?le_Module_exports ?ze_Module_exports ?ve_Module_exports ?kq_Module_start ?kq_Module_table_segments ?le_Module_table_segments ?ze_Module_table_segments ?ve_Module_table_segments ?kq_Module_memory_segments ?le_Module_memory_segments ?ze_Module_memory_segments ?ve_Module_memory_segments
    (case a0 => k_is)
    (case l0 => k_is)
    (case c0 => k_is)
    (case k0 => k_is)
    (case a1 => k_is)
    (case l1 => k_is)
    (case c1 => k_is)
    (case k1 => k_is)
    (case a2 => k_is)
    (case l2 => k_is)
    (case c2 => k_is)
    (case k2 => k_is)
    (case a3 => k_is)
    (case l3 => k_is)
    (case c3 => k_is)
    (case k3 => k_is)
    (case a4 => k_is)
    (case l4 => k_is)
    (case c4 => k_is)
    (case k4 => k_is)
    (case a5 => k_is)
    (case l5 => k_is)
    (case c5 => k_is)
    (case k5 => k_is)
    (case a6 => k_is)
    (case l6 => k_is)
    (case c6 => k_is)
    (case k6 => k_is)
    (case a7 => k_is)
    (case l7 => k_is)
    (case c7 => k_is)
    (case k7 => k_is)
    (case a8 => k_is)
    (case l8 => k_is)
    (case c8 => k_is)
    (case k8 => k_is)
    (case a9 => k_is)
    (case l9 => k_is)
    (case c9 => k_is)
    (case k9 => k_is)
    (case a10 => k_is)
    (case l10 => k_is)
    (case c10 => k_is)
    (case k10 => k_is)
    (case a11 => k_is)
    (case l11 => k_is)
    (case c11 => k_is)
    (case k11 => k_is)
    (case a12 => k_is)
    (case l12 => k_is)
    (case c12 => k_is)
    (case k12 => k_is)
    (case a13 => k_is)
    (case l13 => k_is)
    (case c13 => k_is)
    (case k13 => k_is)
    (case z_bool => k_is)
    (case z_enumerate => k_is)
    (case z_int => k_is)
    (case z_isinstance => k_is)
    (case z_len => k_is)
    (case z_max => k_is)
    (case z_range => k_is)
    (case z_tuple => k_is)
    (case sp0 => k_is)
    (case tk0 => k_is)
    (case aC_HostError => k_is)
    (case aC_LimitReached => k_is)
    (case ex_HostError => k_is)
    (case ty_HostError => k_is)
    (case hd_HostError => k_is)
    (case ex_LimitReached => k_is)
    (case ty_LimitReached => k_is)
    (case hd_LimitReached => k_is)
    (case xl_LimitReached => k_is)
    (case sa_LimitReached => k_is)
    (case ga_LimitReached => k_is)
    (case gg_LimitReached => k_is)
    (case ca_LimitReached => k_is)
    (case kp_LimitReached => k_is)
    (case mr_LimitReached => k_is)
    (case aI_LimitReached => k_is)
    (case tI_LimitReached => k_is)
    (case lI_LimitReached => k_is)
    (case cdo_LimitReached => k_is)
    (case kI_LimitReached => k_is)
    (case no_LimitReached_what => k_is)
    (case sub_LimitReached_HostError => first | rfl | k_is)
    (case ne_LimitReached_HostError => decide)
    (case sub_LimitReached_LimitReached => first | rfl | k_is)
    (case sub_LimitReached_VE => first | rfl | k_is)
    (case aC_Table => k_is)
    (case aC_Memory => k_is)
    (case aC_Global => k_is)
    (case aC_Store => k_is)
    (case aC_Module => k_is)
    (case ai_MOST_KINDS => k_is)
    (case ai_MOST_HOSTS => k_is)
    (case pg_Table => k_is)
    (case hd_Table => k_is)
    (case po_Table => k_is)
    (case sa_Table => k_is)
    (case mk_Table => k_is)
    (case kc_Table => k_is)
    (case na_Table_entries => k_is)
    (case na_Table_most => k_is)
    (case am14 => k_is)
    (case im14 => k_is)
    (case l14 => k_is)
    (case c14 => k_is)
    (case k14 => k_is)
    (case pg_Memory => k_is)
    (case hd_Memory => k_is)
    (case po_Memory => k_is)
    (case sa_Memory => k_is)
    (case mk_Memory => k_is)
    (case kc_Memory => k_is)
    (case na_Memory_pages => k_is)
    (case na_Memory_most => k_is)
    (case na_Memory_cells => k_is)
    (case am15 => k_is)
    (case im15 => k_is)
    (case l15 => k_is)
    (case c15 => k_is)
    (case k15 => k_is)
    (case pg_Global => k_is)
    (case hd_Global => k_is)
    (case po_Global => k_is)
    (case sa_Global => k_is)
    (case mk_Global => k_is)
    (case kc_Global => k_is)
    (case na_Global_kind => k_is)
    (case na_Global_mutable => k_is)
    (case na_Global_value => k_is)
    (case am16 => k_is)
    (case im16 => k_is)
    (case l16 => k_is)
    (case c16 => k_is)
    (case k16 => k_is)
    (case pg_Store => k_is)
    (case hd_Store => k_is)
    (case po_Store => k_is)
    (case sa_Store => k_is)
    (case mk_Store => k_is)
    (case kc_Store => k_is)
    (case na_Store_functions => k_is)
    (case na_Store_tables => k_is)
    (case na_Store_memories => k_is)
    (case na_Store_variables => k_is)
    (case na_Store_tags => k_is)
    (case na_Store_instances => k_is)
    (case am17 => k_is)
    (case im17 => k_is)
    (case l17 => k_is)
    (case c17 => k_is)
    (case k17 => k_is)
    (case pg_Module => k_is)
    (case hd_Module => k_is)
    (case po_Module => k_is)
    (case sa_Module => k_is)
    (case mk_Module => k_is)
    (case kc_Module => k_is)
    (case na_Module_signatures => k_is)
    (case na_Module_imports => k_is)
    (case na_Module_functions => k_is)
    (case na_Module_tables => k_is)
    (case na_Module_memories => k_is)
    (case na_Module_tags => k_is)
    (case na_Module_variables => k_is)
    (case na_Module_exports => k_is)
    (case na_Module_start => k_is)
    (case na_Module_table_segments => k_is)
    (case na_Module_memory_segments => k_is)
    (case am18 => k_is)
    (case im18 => k_is)
    (case l18 => k_is)
    (case c18 => k_is)
    (case k18 => k_is)
    (case kq_Module_signatures => k_is)
    (case le_Module_signatures => k_is)
    (case ze_Module_signatures => decide)
    (case ve_Module_signatures => exact .nil)
    (case kq_Module_imports => k_is)
    (case le_Module_imports => k_is)
    (case ze_Module_imports => decide)
    (case ve_Module_imports => exact .nil)
    (case kq_Module_functions => k_is)
    (case le_Module_functions => k_is)
    (case ze_Module_functions => decide)
    (case ve_Module_functions => exact .nil)
    (case kq_Module_tables => k_is)
    (case le_Module_tables => k_is)
    (case ze_Module_tables => decide)
    (case ve_Module_tables => exact .nil)
    (case kq_Module_memories => k_is)
    (case le_Module_memories => k_is)
    (case ze_Module_memories => decide)
    (case ve_Module_memories => exact .nil)
    (case kq_Module_tags => k_is)
    (case le_Module_tags => k_is)
    (case ze_Module_tags => decide)
    (case ve_Module_tags => exact .nil)
    (case kq_Module_variables => k_is)
    (case le_Module_variables => k_is)
    (case ze_Module_variables => decide)
    (case ve_Module_variables => exact .nil)
    (case kq_Module_exports => k_is)
    (case le_Module_exports => k_is)
    (case ze_Module_exports => decide)
    (case ve_Module_exports => exact .nil)
    (case kq_Module_start => k_is)
    (case kq_Module_table_segments => k_is)
    (case le_Module_table_segments => k_is)
    (case ze_Module_table_segments => decide)
    (case ve_Module_table_segments => exact .nil)
    (case kq_Module_memory_segments => k_is)
    (case le_Module_memory_segments => k_is)
    (case ze_Module_memory_segments => decide)
    (case ve_Module_memory_segments => exact .nil)
#print axioms PySem.Challenge.cw_wasmhost_k43_items_fit_imports_holds


