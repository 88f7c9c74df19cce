import PyProof.Rows.All
import Wide.All
import OpenK.AllK
import Wide.FinOn
import KE.KBits
import KE.BitLaws
import HandS.ForMost
import HandS.ForExc
import HandS.IsInst
import HandS.Wide
import HandS.WideBits
import HandS.WideMore
import HandS.Flow
import HandS.ExcInit
import HandS.Codes
import HandS.ExcField
import HandS.ExcIs
import KE.KExcIs
import KE.KIsAll
import PySem.Challenge.RW_wasmhost_k10_numbers_written
set_option Elab.async false
set_option linter.all false
set_option maxRecDepth 100000
set_option maxHeartbeats 4000000
namespace V
open PySem PySem.Spec PyProof.Rows L2
/-! ### a def that may be called by its name -/
structure Cal (P : Program) (w : World) (K : PySem.W.Frag) (mg : Str → Option Value) (base : Heap) (C : CXT) (k : Nat) (x : Str) (sp : Sp) : Prop where
  ex : ∃ (f : Addr) (fd : FuncData) (ps : List Str), FnOk P w K mg base C k f fd ps sp ∧ mg x = some (.ref f) ∧ PySem.W.keepIn K (.ref f) = true ∧ Binds K fd ps []
section
variable {P : Program} {w : World} {K : PySem.W.Frag} {mg : Str → Option Value} {base : Heap} {k : Nat} {x : Str} {sp sp' : Sp} {C : CXT}
theorem Cal.mono (c : Cal P w K mg base C k x sp) {j : Nat} (h : k ≤ j) : Cal P w K mg base C j x sp := by
  obtain ⟨f, fd, ps, F, m, kp, b⟩ := c.ex
  exact ⟨f, fd, ps, F.mono h, m, kp, b⟩
theorem Cal.imp (c : Cal P w K mg base C k x sp) (h : ∀ vs H Q E, sp' vs H Q E → sp vs H Q E) : Cal P w K mg base C k x sp' := by
  obtain ⟨f, fd, ps, F, m, kp, b⟩ := c.ex
  exact ⟨f, fd, ps, F.imp h, m, kp, b⟩
/-- a def as the top leaves it -/
structure Def (K : PySem.W.Frag) (mg : Str → Option Value) (x : Str) (st : Stmt) (ps : List Str) : Prop where
  ex : ∃ (f : Addr) (fd : FuncData), L2.Fun K x x st f fd ∧ mg x = some (.ref f) ∧ Binds K fd ps []
theorem Def.ok {st : Stmt} {N ps : List Str} (D : Def K mg x st ps) (S : FnScope N ps (defScope st)) (len : ∀ vs H Q E, sp vs H Q E → vs.length = ps.length)
    (hbody : ∀ (f : Addr) (cdv : Value) (A : Around) (outer : List Env) (s : Shared) (H : Hp) (vs : List V) (Q : VK) (E : XK), Room k (A.deeper (envOfC x (defScope st) s.heap.objs.size f cdv)) → sp vs H Q E →
      ∃ t, PSs (cxOf CX0 P w K mg base N x (defScope st) f cdv A outer s H E).nox (defBody st) t ∧ t { nx := fun _ H' => Q .non H', rt := Q } (start N vs) H) : Cal P w K mg base CX0 (k + 1) x sp := by
  obtain ⟨f, fd, F, m, b⟩ := D.ex
  exact ⟨f, fd, ps, F.ok S len (hbody f), m, F.kp, b⟩
theorem Def.okX {st : Stmt} {N ps : List Str} (D : Def K mg x st ps) (S : FnScope N ps (defScope st)) (len : ∀ vs H Q E, sp vs H Q E → vs.length = ps.length)
    (hbody : ∀ (f : Addr) (cdv : Value) (A : Around) (outer : List Env) (s : Shared) (H : Hp) (vs : List V) (Q : VK) (E : XK), Room k (A.deeper (envOfC x (defScope st) s.heap.objs.size f cdv)) → sp vs H Q E →
      ∃ t, PSs (cxOf (L2.CX P w) P w K mg base N x (defScope st) f cdv A outer s H E) (defBody st) t ∧ t { nx := fun _ H' => Q .non H', rt := Q } (start N vs) H) : Cal P w K mg base (L2.CX P w) (k + 1) x sp := by
  obtain ⟨f, fd, F, m, b⟩ := D.ex
  exact ⟨f, fd, ps, F.okX S len (hbody f), m, F.kp, b⟩
end
section
variable {X : Cx} {k j : Nat} {x : Str} {sp : Sp} {p pos : Pos} {e : Expr} {es : List Expr} {t : TA} {C : CXT} {E : XK}
theorem pe_cE (c : Cal X.prog X.w X.K X.mg X.base C k x sp) (hr : Room j X.A) (hk : k ≤ j) (hx : Passes C X E) (hg : Gl X x) (ha : PA X (e :: es) t)
    (hdb : (x == ("__debug__" : Str)) = false := by decide) (he : starEach (e :: es) X.env = (false, eval e X.env) :: starEach es X.env := by rfl) (hpl : (backTo pos (starEach es X.env)).any (·.1) = false := by rfl) :
    PE X (.Call (.Name x p) (e :: es) [] pos) (tCall sp [] E t) := by
  obtain ⟨f, fd, ps, F, hm, kp, b⟩ := c.ex
  exact pe_call F (hr.mono hk) hg hm kp b .nil hx ha hdb he hpl
theorem pe_cE0 (c : Cal X.prog X.w X.K X.mg X.base C k x sp) (hr : Room j X.A) (hk : k ≤ j) (hx : Passes C X E) (hg : Gl X x)
    (hdb : (x == ("__debug__" : Str)) = false := by decide) : PE X (.Call (.Name x p) [] [] pos) (tCall sp [] E tNil) := by
  obtain ⟨f, fd, ps, F, hm, kp, b⟩ := c.ex
  exact pe_call0 F (hr.mono hk) hg hm kp b .nil hx hdb
/-- a def that lets nothing out -/
theorem pe_c (c : Cal X.prog X.w X.K X.mg X.base CX0 k x sp) (hr : Room j X.A) (hk : k ≤ j) (hg : Gl X x) (ha : PA X (e :: es) t)
    (hdb : (x == ("__debug__" : Str)) = false := by decide) (he : starEach (e :: es) X.env = (false, eval e X.env) :: starEach es X.env := by rfl) (hpl : (backTo pos (starEach es X.env)).any (·.1) = false := by rfl) :
    PE X (.Call (.Name x p) (e :: es) [] pos) (tCall sp [] E0 t) := pe_cE c hr hk pass0 hg ha hdb he hpl
theorem pe_c0 (c : Cal X.prog X.w X.K X.mg X.base CX0 k x sp) (hr : Room j X.A) (hk : k ≤ j) (hg : Gl X x)
    (hdb : (x == ("__debug__" : Str)) = false := by decide) : PE X (.Call (.Name x p) [] [] pos) (tCall sp [] E0 tNil) := pe_cE0 c hr hk pass0 hg hdb
end
section
variable {X : Cx} {k j : Nat} {x : Str} {sp : Sp} {p pos : Pos} {e : Expr} {es : List Expr} {t : TA} {C : CXT} {E : L2.St → XK}
/-- a call within a try -/
theorem pe_cS (c : Cal X.prog X.w X.K X.mg X.base C k x sp) (hr : Room j X.A) (hk : k ≤ j) (hg : Gl X x) (hx : ∀ σ, PassesAt C X σ (E σ)) (ha : PA X (e :: es) t)
    (hdb : (x == ("__debug__" : Str)) = false := by decide) (he : starEach (e :: es) X.env = (false, eval e X.env) :: starEach es X.env := by rfl) (hpl : (backTo pos (starEach es X.env)).any (·.1) = false := by rfl) : PE X (.Call (.Name x p) (e :: es) [] pos) (tCallS sp E t) := by
  obtain ⟨f, fd, ps, F, hm, kp, b⟩ := c.ex
  exact pe_callS F (hr.mono hk) hg hm kp b hx ha hdb he hpl
end
theorem hu64 {A : Around} {k : Nat} (hr : Room k A) : A.units + 64 < cLine := by have := hr.un; omega
/-! ### numbers -/
theorem small64 {n : Nat} (h : n ≤ 1000000) : n ≤ sizeLine := Nat.le_trans h (by decide)
theorem small64' {n : Nat} (h : n ≤ 1000000) : n < sizeLine := Nat.lt_of_le_of_lt h (by decide)
theorem shl1 {j : Int} (h : 0 ≤ j) (h2 : j ≤ 100000) : CShl 1 j := by
  obtain ⟨n, rfl⟩ := Int.eq_ofNat_of_zero_le h
  exact shl_ok (n := 1) (by decide) (by omega)
theorem shlN {i j : Int} (hi : i.natAbs < 2 ^ 1000) (h : 0 ≤ j) (h2 : j ≤ 100000) : CShl i j := by
  obtain ⟨n, rfl⟩ := Int.eq_ofNat_of_zero_le h
  exact shl_ok (n := 1000) hi (by omega)
theorem pow_pos2 (k : Nat) : (0 : Int) < 2 ^ k := PySem.W.kbt_pos k
/-! ### heaps -/
theorem Same.new {H : Hp} {p : Addr} {o : HO} (h : H p = none) : Same H (upd H p o) := fun b x e => by
  rw [upd_ne (ne_of_none e h)]; exact e
theorem SqL.new {K : PySem.W.Frag} {H : Hp} {p : Addr} {xs : List V} : SqL K (upd H p (.lst xs)) p xs := .inl (.inl upd_same)
theorem SqT.new {K : PySem.W.Frag} {H : Hp} {p : Addr} {xs : List V} : SqT K (upd H p (.tup xs)) p xs := .inl (.inl upd_same)

/-! ### operators in the words that the readings like -/
section
variable {X : Cx}
/-- i << j, i of a usual size -/
theorem op_shlS : OpR X (binaryOp .LShift) (fun x y H Q => ∃ i j : Int, x = .int i ∧ y = .int j ∧ (i.natAbs < 2 ^ 1000 ∧ 0 ≤ j ∧ j ≤ 100000) ∧ Q (.int (i * 2 ^ j.toNat)) H) := by
  intro pins s σ H x y v u Q I rx ry h
  obtain ⟨i, j, rfl, rfl, ⟨c0, c1, c2⟩, q⟩ := h
  exact op_shlW pins s σ H _ _ v u Q I rx ry ⟨i, j, rfl, rfl, shlN c0 c1 c2, q⟩
theorem nat_small {i : Int} (h : i.natAbs ≤ 18446744073709551616) : i.natAbs < 2 ^ 1000 := Nat.lt_of_le_of_lt h (by decide +kernel)
/-- 1 << j -/
theorem op_shl1 : OpR X (binaryOp .LShift) (fun x y H Q => ∃ j : Int, x = .int 1 ∧ y = .int j ∧ (0 ≤ j ∧ j ≤ 100000) ∧ Q (.int (2 ^ j.toNat)) H) := by
  intro pins s σ H x y v u Q I rx ry h
  obtain ⟨j, rfl, rfl, ⟨c1, c2⟩, q⟩ := h
  refine op_shlW pins s σ H _ _ v u Q I rx ry ⟨1, j, rfl, rfl, shl1 c1 c2, ?_⟩
  show Q (.int (1 * 2 ^ j.toNat)) H
  rw [Int.one_mul]; exact q
end
/-- isinstance(x, T) of a value of a type of its own -/
theorem isi_int {K : PySem.W.Frag} {H : Hp} {i : Int} {Q : VK} (q : Q (.bl true) H) : rIsi K [.int i, .ty "int"] H Q := ⟨.int i, .ty "int", _, _, true, rfl, .ty _, .base (.int _), kit_ty (by decide +kernel), q⟩
theorem isi_int_bool {K : PySem.W.Frag} {H : Hp} {i : Int} {Q : VK} (q : Q (.bl false) H) : rIsi K [.int i, .ty "bool"] H Q := ⟨.int i, .ty "bool", _, _, false, rfl, .ty _, .base (.int _), kit_ty (by decide +kernel), q⟩
theorem isi_list {K : PySem.W.Frag} {H : Hp} {a : Addr} {xs : List V} {Q : VK} (h : H a = some (.lst xs)) (q : Q (.bl true) H) : rIsi K [.ref a, .ty "list"] H Q := ⟨.ref a, .ty "list", _, _, true, rfl, .ty _, .base (.lst h), kit_ty (by decide +kernel), q⟩
theorem isi_tup {K : PySem.W.Frag} {H : Hp} {a : Addr} {xs : List V} {Q : VK} (h : H a = some (.tup xs)) (q : Q (.bl true) H) : rIsi K [.ref a, .ty "tuple"] H Q := ⟨.ref a, .ty "tuple", _, _, true, rfl, .ty _, .base (.tup h), kit_ty (by decide +kernel), q⟩
theorem isi_str {K : PySem.W.Frag} {H : Hp} {z : Str} {Q : VK} (q : Q (.bl true) H) : rIsi K [.str z, .ty "str"] H Q := ⟨.str z, .ty "str", _, _, true, rfl, .ty _, .base (.str _), kit_ty (by decide +kernel), q⟩
/-! ### lists of ints -/
theorem at_ints {ns : List Int} {k : Nat} (h : k < ns.length) : atI (ns.map V.int) (k : Int) = some (.int (ns.getD k 0)) := atI_nat (by
  rw [List.getElem?_map, List.getElem?_eq_getElem h, List.getD_eq_getElem?_getD, List.getElem?_eq_getElem h]; rfl)
theorem cut_to (xs : List V) (k : Nat) : cutV xs none (some (k : Int)) = xs.take k := by
  unfold cutV
  rw [HT.sIx_nat, HT.sIx_none, List.drop_zero, Nat.sub_zero]
  rcases Nat.le_total k xs.length with h | h
  · rw [Nat.min_eq_left h]
  · rw [Nat.min_eq_right h, List.take_length, List.take_of_length_le h]
theorem cut_from (xs : List V) (k : Nat) : cutV xs (some (k : Int)) none = xs.drop k := by
  unfold cutV
  rw [HT.sIx_nat, HT.sIx_none]
  rcases Nat.le_total k xs.length with h | h
  · rw [Nat.min_eq_left h]; exact List.take_of_length_le (by rw [List.length_drop]; exact Nat.le_refl _)
  · rw [Nat.min_eq_right h, Nat.sub_self, List.take_zero, List.drop_eq_nil_of_le h]
/-! ### a reading, gone through as far as it goes by sight -/
local macro_rules | `(tactic| walk_at "side") => `(tactic| first
  | (show _ = _; rfl)
  | (show (0 : Int) < _; first | omega | exact pow_pos2 _)
  | (show (0 : Int) ≤ _; omega)
  | (show (0 : Int) ≤ _ ∧ _; constructor <;> omega)
  | (show (0 : Int) < _ ∧ _; constructor <;> omega)
  | (show (_ < _ ∧ _ < _) ∨ (_ < _ ∧ _ < _); first | exact .inl ⟨by omega, by omega⟩ | exact .inr ⟨by omega, by omega⟩))
local macro_rules | `(tactic| walk_at "loop") => `(tactic| (show ∃ W : (Nat → Nat → L2.St → Hp → Prop), _))
local macro_rules | `(tactic| walk_at "go1") => `(tactic| (fail_if_success walk_at "loop"); first
  | refine And.intro (show (_ : Int) ≤ _ by omega) ?_
  | refine ⟨_, rfl, ?_⟩
  | refine ⟨_, _, rfl, rfl, ?_⟩
  | refine ⟨_, rfl, rfl, ?_⟩
  | refine .inl ⟨_, rfl, ?_⟩
  | refine ⟨_, .ty "int", _, _, true, rfl, .ty _, .base (.int _), kit_ty (by decide +kernel), ?_⟩
  | refine ⟨_, .ty "bool", _, _, false, rfl, .ty _, .base (.int _), kit_ty (by decide +kernel), ?_⟩
  | refine ⟨_, .ty "bool", _, _, false, rfl, .ty _, .base (.str _), kit_ty (by decide +kernel), ?_⟩
  | refine ⟨_, .ty "str", _, _, true, rfl, .ty _, .base (.str _), kit_ty (by decide +kernel), ?_⟩
  | refine ⟨_, .ty "list", _, _, true, rfl, .ty _, .base (.lst (by assumption)), kit_ty (by decide +kernel), ?_⟩
  | refine ⟨_, .ty "tuple", _, _, true, rfl, .ty _, .base (.tup (by assumption)), kit_ty (by decide +kernel), ?_⟩
  | refine ⟨_, _, rfl, .inl (by assumption), ?_⟩
  | refine ⟨_, _, rfl, .inr (by assumption), ?_⟩
  | refine ⟨_, _, rfl, ?_⟩
  | refine ⟨_, _, _, _, rfl, rfl, by assumption, at_ints (by omega), ?_⟩
  | refine ⟨_, _, _, _, rfl, rfl, by assumption, rfl, ?_⟩
  | refine iteF ?_
  | refine iteT ?_
  | refine iteNS rfl ?_
  | (refine And.intro ?h1 ?h2; case h1 => first
    | walk_at "side"
    | assumption
    | (show (_ : Nat) ≤ _; omega)
    | (show (_ : Int) ≤ _; omega)
    | (show (_ : Int) < _; omega)
    | (show 0 ≤ sizeLine; decide)
    | (show 1 ≤ sizeLine; decide)
    | (show 2 ≤ sizeLine; decide)
    | (show 3 ≤ sizeLine; decide)
    | (show 4 ≤ sizeLine; decide)
    | (show (_ : Nat) ≤ _; decide)))
local macro_rules | `(tactic| walk_at "go") => `(tactic| repeat walk_at "go1")
/-! ### tests that read alone, loops -/
theorem tor_b {t u : TT} {σ : L2.St} {H : Hp} {Q : Bool → Hp → Prop} (b1 b2 : Bool) (h1 : ∀ Q, Q b1 H → t σ H Q) (h2 : ∀ Q, Q b2 H → u σ H Q) (q : Q (b1 || b2) H) : tOr t u σ H Q := by
  refine h1 _ ?_
  cases b1 with
  | true => rw [if_pos rfl]; exact q
  | false => rw [if_neg (by decide)]; exact h2 _ q
theorem tand_b {t u : TT} {σ : L2.St} {H : Hp} {Q : Bool → Hp → Prop} (b1 b2 : Bool) (h1 : ∀ Q, Q b1 H → t σ H Q) (h2 : ∀ Q, Q b2 H → u σ H Q) (q : Q (b1 && b2) H) : tAnd t u σ H Q := by
  refine h1 _ ?_
  cases b1 with
  | true => rw [if_pos rfl]; exact h2 _ q
  | false => rw [if_neg (by decide)]; exact q
theorem while_ev {c : TT} {tb : TS} {D : Ends} {σ : L2.St} {H : Hp} (Pv : L2.St → Hp → Prop) (μ : L2.St → Hp → Nat) (h0 : Pv σ H)
    (hs : ∀ σ H, Pv σ H → ∃ b : Bool, (∀ Q, Q b H → c σ H Q) ∧ (b = true → tb { D with nx := fun σ' H' => Pv σ' H' ∧ μ σ' H' < μ σ H, ct := fun σ' H' => Pv σ' H' ∧ μ σ' H' < μ σ H, bk := D.nx } σ H) ∧ (b = false → D.nx σ H)) : tWhile c tb D σ H := by
  refine ⟨fun m σ H => m = μ σ H ∧ Pv σ H, ⟨_, rfl, h0⟩, ?_⟩
  rintro m σ H ⟨rfl, p⟩
  obtain ⟨b, h1, h2, h3⟩ := hs σ H p
  refine h1 _ ?_
  cases b with
  | true => exact ⟨_, fun σ' H' ⟨p', l⟩ => ⟨_, l, rfl, p'⟩, h2 rfl⟩
  | false => exact h3 rfl
/-- the loops' bookkeeping, with what follows and what returns told apart -/
theorem for_listD {K : PySem.W.Frag} {a : Addr} {xs : List V} {g : TG} {tb : TS} {nx : L2.St → Hp → Prop} {rt : VK} {σ : L2.St} {H : Hp} (Pv : Nat → L2.St → Hp → Prop) (h0 : Pv 0 σ H) (hl : ∀ i σ H, i ≤ xs.length → Pv i σ H → SqL K H a xs)
    (hs : ∀ i x σ H, xs[i]? = some x → Pv i σ H → g x σ H fun σ2 H2 => tb { nx := Pv (i + 1), rt := rt, bk := nx, ct := Pv (i + 1) } σ2 H2) (hd : ∀ σ H, Pv xs.length σ H → nx σ H) :
    ∃ W : Nat → Nat → L2.St → Hp → Prop, (∃ m, W 0 m σ H) ∧ ∀ i m σ H, W i m σ H → ((Itl K a).stop i H ∧ nx σ H) ∨ ((Itl K a).go i H ∧ ∃ N : L2.St → Hp → Prop, (∀ σ' H', N σ' H' → ∃ m', m' < m ∧ W (i + 1) m' σ' H') ∧
      ∀ x H', (Itl K a).yld i H x H' → g x σ H' fun σ2 H2 => tb { nx := N, rt := rt, bk := nx, ct := N } σ2 H2) := for_list (D := { nx := nx, rt := rt }) Pv h0 hl hs hd
theorem for_rangeD {lo : Int} {n : Nat} {g : TG} {tb : TS} {nx : L2.St → Hp → Prop} {rt : VK} {σ : L2.St} {H : Hp} (Pv : Nat → L2.St → Hp → Prop) (h0 : Pv 0 σ H)
    (hs : ∀ i σ H, i < n → Pv i σ H → g (.int (lo + i)) σ H fun σ2 H2 => tb { nx := Pv (i + 1), rt := rt, bk := nx, ct := Pv (i + 1) } σ2 H2) (hd : ∀ σ H, Pv n σ H → nx σ H) :
    ∃ W : Nat → Nat → L2.St → Hp → Prop, (∃ m, W 0 m σ H) ∧ ∀ i m σ H, W i m σ H → ((Itr lo n).stop i H ∧ nx σ H) ∨ ((Itr lo n).go i H ∧ ∃ N : L2.St → Hp → Prop, (∀ σ' H', N σ' H' → ∃ m', m' < m ∧ W (i + 1) m' σ' H') ∧
      ∀ x H', (Itr lo n).yld i H x H' → g x σ H' fun σ2 H2 => tb { nx := N, rt := rt, bk := nx, ct := N } σ2 H2) := for_range (D := { nx := nx, rt := rt }) Pv h0 hs hd
/-! ### a comprehension that makes f of each item -/
theorem lc_map {K : PySem.W.Frag} {a : Addr} {xs : List V} {j : Nat} {te : TE} {σ : L2.St} {H1 : Hp} {D : Addr} {Qd : Hp → Prop} (f : V → V) (hD : H1 D = none) (hS : SqL K H1 a xs) (hn : xs.length ≤ 100000)
    (hs : ∀ x H Q, x ∈ xs → Same H1 H → (∀ H', Same H H' → Q (f x) H') → te ((σ.set j none).set j (some x)) H Q) (hd : ∀ H, Same H1 H → H D = some (.lst (xs.map f)) → Qd H) :
    ∃ W : Nat → Nat → Hp → Prop, (∃ m, W 0 m (upd H1 D (.lst []))) ∧ ∀ i m H, W i m H →
      ((Itl K a).stop i H ∧ Qd H) ∨ ((Itl K a).go i H ∧ ∃ Nx : Hp → Prop, (∀ H', Nx H' → ∃ m', m' < m ∧ W (i + 1) m' H') ∧ ∀ x H', (Itl K a).yld i H x H' → gName j x (wipe σ [j]) H' fun σ2 H2 => wipe σ2 [j] = wipe σ [j] ∧ tYes σ2 H2 fun b H3 =>
        if b = true then te σ2 H3 fun y H4 => ∃ acc, H4 D = some (.lst acc) ∧ acc.length < sizeLine ∧ Nx (upd H4 D (.lst (acc ++ [y]))) else Nx H3) := by
  refine lc_list (xs := xs) (fun i H => Same H1 H ∧ H D = some (.lst ((xs.take i).map f))) ⟨Same.new hD, by rw [upd_same]; rfl⟩ (fun i H _ h => h.1.seq hS) (fun i x H hx h => ?_) (fun H h => hd H h.1 (by rw [List.take_length] at h; exact h.2))
  have hi : i < xs.length := (List.getElem?_eq_some_iff.mp hx).1
  refine ⟨?_, ?_⟩
  · show (((σ.set j none).set j (some x)).set j none) = σ.set j none
    rw [List.set_set, List.set_set]
  · simp only [tYes, if_true]
    refine hs x H _ (List.mem_of_getElem? hx) h.1 fun H' s' => ?_
    refine ⟨_, s' _ _ h.2, ?_, fun b o e => ?_, ?_⟩
    · rw [List.length_map, List.length_take]; exact small64' (by omega)
    · have nb : b ≠ D := fun z => by rw [z, hD] at e; cases e
      rw [upd_ne nb]; exact s' _ _ (h.1 _ _ e)
    · rw [upd_same, List.take_add_one, hx, List.map_append]; rfl

/-! ### own errors with fields -/
/-- what the top has written of an own error's class, whose base is ValueError by some way -/
structure ExK (K : PySem.W.Frag) (mg : Str → Option Value) (x : Str) (C : Addr) : Prop where
  g : mg x = some (.ref C)
  T : OexC K C
  ga : PySem.W.findIn K (.ref C) "__getattribute__" = some (some (.builtin "BaseException.__getattribute__"))
  gg : PySem.W.findIn K (.ref C) "__getattr__" = some none
  hd : PySem.W.hasDictIn K C = true
  ca : PySem.W.findIn K (.ref C) "__class__" = some (some (.builtin "object.__class__"))
  sp : PySem.W.specialIn K (.builtin "object.__class__") "__get__" = some (some (.builtin "getset_descriptor.__get__"))
  tk : PySem.W.takesIn K (.builtin "object.__class__") = some true
  mr : PySem.W.mroIn K C (.type "object") = some true
theorem ExK.xf {K : PySem.W.Frag} {mg : Str → Option Value} {x : Str} {C : Addr} (k : ExK K mg x C) : XfC K C := ⟨k.ga, k.gg, k.T.exC, k.hd⟩
def spI1 (K : PySem.W.Frag) (C : Addr) (a : Str) : Sp := fun vs H Q _ => ∃ (s : Addr) (v : V), vs = [.ref s, v] ∧ H s = some (exo s C none) ∧
  ∀ d, H d = none → d ≠ s → Q .non (upd (upd H d (exd d [(a, v)])) s (exo s C (some d)))
def spI2 (K : PySem.W.Frag) (C : Addr) (a b : Str) : Sp := fun vs H Q _ => ∃ (s : Addr) (v u : V), vs = [.ref s, v, u] ∧ H s = some (exo s C none) ∧
  ∀ d, H d = none → d ≠ s → Q .non (upd (upd (upd H d (exd d [(a, v)])) s (exo s C (some d))) d (exd d [(b, u), (a, v)]))
theorem del_upd {H : Hp} {s d : Addr} {o o' : HO} (hs : H s = none) (hd : H d = none) (ne : d ≠ s) {K : Hp} (hK : ∀ b, b ≠ s → b ≠ d → K b = H b) : Same H (upd (del K s) d o) := fun b x e => by
  have nd : b ≠ d := ne_of_none e hd
  have ns : b ≠ s := ne_of_none e hs
  rw [upd_ne nd, del_ne ns, hK b ns nd]; exact e
/-- X(v): an error flies whose dict, new at d, holds the field; all else stands -/
theorem fly1 {K : PySem.W.Frag} {C : Addr} {a : Str} {v : V} {H : Hp} {Q : XK} (h : ∀ d Hf, Same H Hf → Hf d = some (.xd [(a, v)]) → Q (.ref C) (some d) Hf) :
    ([v] : List V).length ≤ 1000 ∧ ∀ s, H s = none → spI1 K C a (.ref s :: ([v] ++ [])) (upd H s (exo s C none))
      (fun v H2 => v = .non ∧ ∃ (d : Addr) (fs : List (Str × V)), H2 s = some (exo s C (some d)) ∧ H2 d = some (exd d fs) ∧ H d = none ∧ Q (.ref C) (some d) (upd (del H2 s) d (.xd fs))) (fun _ _ _ => False) := by
  refine ⟨by show 1 ≤ 1000; decide, fun s hs => ⟨s, v, rfl, upd_same, fun d hd ne => ⟨rfl, d, [(a, v)], upd_same, ?_, ?_, ?_⟩⟩⟩
  · rw [upd_ne ne, upd_same]
  · rw [upd_ne ne] at hd; exact hd
  · have hd' : H d = none := by rw [upd_ne ne] at hd; exact hd
    refine h d _ (del_upd (o' := .lst []) hs hd' ne fun b nb nd => ?_) upd_same
    rw [upd_ne nb, upd_ne nd, upd_ne nb]
theorem fly2 {K : PySem.W.Frag} {C : Addr} {a b : Str} {v u : V} {H : Hp} {Q : XK} (h : ∀ d Hf, Same H Hf → Hf d = some (.xd [(b, u), (a, v)]) → Q (.ref C) (some d) Hf) :
    ([v, u] : List V).length ≤ 1000 ∧ ∀ s, H s = none → spI2 K C a b (.ref s :: ([v, u] ++ [])) (upd H s (exo s C none))
      (fun v H2 => v = .non ∧ ∃ (d : Addr) (fs : List (Str × V)), H2 s = some (exo s C (some d)) ∧ H2 d = some (exd d fs) ∧ H d = none ∧ Q (.ref C) (some d) (upd (del H2 s) d (.xd fs))) (fun _ _ _ => False) := by
  refine ⟨by show 2 ≤ 1000; decide, fun s hs => ⟨s, v, u, rfl, upd_same, fun d hd ne => ⟨rfl, d, [(b, u), (a, v)], ?_, upd_same, ?_, ?_⟩⟩⟩
  · rw [upd_ne ne.symm, upd_same]
  · rw [upd_ne ne] at hd; exact hd
  · have hd' : H d = none := by rw [upd_ne ne] at hd; exact hd
    refine h d _ (del_upd (o' := .lst []) hs hd' ne fun b nb nd => ?_) upd_same
    rw [upd_ne nd, upd_ne nb, upd_ne nd, upd_ne nb]
section
variable {P : Program} {w : World} {K : PySem.W.Frag} {mg : Str → Option Value} {base : Heap} {C f : Addr} {fd : FuncData} {qual : Str}
/-- an __init__ that stores its one parameter, its two parameters, under their names -/
theorem init1 {st : Stmt} {a : Str} (F : L2.Fun K "__init__" qual st f fd) (S : FnScope ["self", a] ["self", a] (defScope st)) (T : OexC K C) (na : PySem.W.findIn K (.ref C) a = some none) {p1 p2 p3 p4 : Pos} (hb : defBody st = [.Assign [.Attribute (.Name "self" p1) a p2] (.Name a p3) p4])
    (va : Vis (defScope st) a) (vs : Vis (defScope st) "self") (d1 : (a == ("__debug__" : Str)) = false) (d2 : (a == ("__classdict__" : Str)) = false) : FnOk P w K mg base CX0 1 f fd ["self", a] (spI1 K C a) := by
  refine F.ok S (fun vs H Q E h => ?_) (fun cdv A outer s H vs Q E hr h => ?_)
  · obtain ⟨s, v, rfl, _⟩ := h; rfl
  · obtain ⟨s, v, rfl, hs, q⟩ := h
    rw [hb]
    refine ⟨_, pss_one (ps_ost (pe_var (i := 0) rfl (by assumption)) (pe_var (i := 1) rfl (by assumption) d1 d2)), ?_⟩
    exact ⟨_, rfl, _, rfl, s, C, rfl, T, na, .inl ⟨hs, fun d hd ne => q d hd ne⟩⟩
theorem init2 {st : Stmt} {a b : Str} (F : L2.Fun K "__init__" qual st f fd) (S : FnScope ["self", a, b] ["self", a, b] (defScope st)) (T : OexC K C) (na : PySem.W.findIn K (.ref C) a = some none) (nb : PySem.W.findIn K (.ref C) b = some none) {p1 p2 p3 p4 q1 q2 q3 q4 : Pos}
    (hb : defBody st = [.Assign [.Attribute (.Name "self" p1) a p2] (.Name a p3) p4, .Assign [.Attribute (.Name "self" q1) b q2] (.Name b q3) q4])
    (va : Vis (defScope st) a) (vb : Vis (defScope st) b) (vs : Vis (defScope st) "self") (d1 : (a == ("__debug__" : Str)) = false) (d2 : (a == ("__classdict__" : Str)) = false) (d3 : (b == ("__debug__" : Str)) = false) (d4 : (b == ("__classdict__" : Str)) = false) : FnOk P w K mg base CX0 1 f fd ["self", a, b] (spI2 K C a b) := by
  refine F.ok S (fun vs H Q E h => ?_) (fun cdv A outer s H vs Q E hr h => ?_)
  · obtain ⟨s, v, u, rfl, _⟩ := h; rfl
  · obtain ⟨s, v, u, rfl, hs, q⟩ := h
    rw [hb]
    refine ⟨_, pss_cons (ps_ost (pe_var (i := 0) rfl (by assumption)) (pe_var (i := 1) rfl (by assumption) d1 d2)) (pss_one (ps_ost (pe_var (i := 0) rfl (by assumption)) (pe_var (i := 2) rfl (by assumption) d3 d4))), ?_⟩
    refine ⟨_, rfl, _, rfl, s, C, rfl, T, na, .inl ⟨hs, fun d hd ne => ?_⟩⟩
    exact ⟨_, rfl, _, rfl, s, C, rfl, T, nb, .inr ⟨d, _, upd_same, by rw [upd_ne ne, upd_same], (by show 1 ≤ 900; decide), q d hd ne⟩⟩
end
/-- isinstance(e, c), e the caught error at a, of the class D, its dict at dd -/
theorem call_isX {X : Cx} {a D : Addr} {oe : Obj} {cls : Value} {d : Option Addr} {pn : List (Addr × Obj)} (hz : Zc cls d oe) (hf : ∃ vs, oe.data = .fields vs) {x : Str} (k : ExK X.K X.mg x D) : CallR (X.suite a ((a, oe) :: pn)) (.builtin "isinstance")
    (fun xs H Q => ∃ (c : V) (cv : Value) (b : Bool) (dd : Addr) (fs : List (Str × V)), xs = [.ref a, c] ∧ cls = .ref D ∧ d = some dd ∧ H dd = some (.xd fs) ∧ RelV c cv ∧ (∀ u, RelV c u → u = cv) ∧ PySem.W.kitOne X.K (.ref D) cv = some b ∧ Q (.bl b) H) := by
  intro pins s σ H xs us Q I r h
  obtain ⟨c, cv, b, dd, fs, rfl, rfl, rfl, ea, _, hcv, e, q⟩ := h
  obtain ⟨u1, u2, rfl, r1, r2⟩ := vals2 r
  cases r1
  have ec := hcv _ r2
  subst ec
  obtain ⟨hget, _⟩ := I.pin (a, oe) (List.mem_append.mpr (.inl List.mem_cons_self))
  obtain ⟨vs, hv⟩ := hf
  have hx : ObjOk X.prog X.w H s.heap dd (.xd fs) := I.hok dd _ ea
  obtain ⟨mA, ⟨od, es, ep, ho, hl⟩, hr⟩ := hx
  have J : PySem.W.InstAt s.heap a oe D (some od) := ⟨hget, hz.1, by unfold PySem.W.notCls; rw [hv] <;> rfl, by rw [hz.2]; exact ho⟩
  have hc : (PySem.W.clsIn X.K D).isSome = true := by
    have h := k.hd
    unfold PySem.W.hasDictIn at h
    cases hh : PySem.W.clsIn X.K D with
    | none => rw [hh] at h; cases h
    | some cd => rfl
  exact PySem.W.kia_one (PySem.W.kitx_exc hc k.ga k.gg k.T.exC k.ca k.sp k.tk k.mr) I.kIn J e (fun z => nomatch z) fun tk => ⟨.bl b, H, I.kept (t' := tk) fun _ _ z => z, rfl, q⟩
/-- what isinstance and an except clause ask of own classes -/
theorem kit_self {K : PySem.W.Frag} {C : Addr} : PySem.W.kitOne K (.ref C) (.ref C) = some true := by
  unfold PySem.W.kitOne
  rw [if_pos (by exact beq_self_eq_true (Value.ref C))]
theorem kit_two {K : PySem.W.Frag} {D C : Addr} {b : Bool} (ne : (Value.ref D == Value.ref C) = false) (hd : PySem.W.hasDictIn K C = true) (ht : PySem.W.typeIn K (.ref C) = some (.type "type")) (hs : PySem.W.subIn K (.ref D) (.ref C) = some b) : PySem.W.kitOne K (.ref D) (.ref C) = some b := by
  have hc : (PySem.W.clsIn K C).isSome = true := by
    unfold PySem.W.hasDictIn at hd
    cases hh : PySem.W.clsIn K C with
    | none => rw [hh] at hd; cases hd
    | some cd => rfl
  unfold PySem.W.kitOne PySem.W.kitCls
  rw [ne, if_neg (by decide)]
  show (if ((PySem.W.clsIn K C).isSome && PySem.W.typeIn K (.ref C) == some (.type "type")) = true then PySem.W.subIn K (.ref D) (.ref C) else none) = some b
  rw [hc, ht, hs]; rfl
theorem kit_ve {K : PySem.W.Frag} {D : Addr} (hs : PySem.W.subIn K (.ref D) (.type "ValueError") = some true) : PySem.W.kitOne K (.ref D) (.type "ValueError") = some true := by
  unfold PySem.W.kitOne PySem.W.kitCls
  rw [show (Value.ref D == Value.type "ValueError") = false from rfl, if_neg (by decide)]
  show (if PySem.W.kitMeta "ValueError" = true then PySem.W.subIn K (.ref D) (.type "ValueError") else none) = some true
  rw [if_pos (by decide +kernel), hs]

/-! ### the text by places -/
def top (i : Nat) : Stmt := PySem.Challenge.pw_wasmhost_k10_numbers_written.main.body.getD i (.Pass ⟨0, 0, 0, 0⟩)
abbrev s_write_unsigned : Stmt := top 4
abbrev s_write_signed : Stmt := top 5
abbrev s_byte_at : Stmt := top 6
abbrev s_read_groups : Stmt := top 7
abbrev s_read_unsigned : Stmt := top 8
abbrev s_read_signed : Stmt := top 9
abbrev s__law_is_integer : Stmt := top 11
abbrev s__law_signed : Stmt := top 12
abbrev s__law_is_bytes : Stmt := top 13
abbrev s__law_unsigned : Stmt := top 14
abbrev s__law_signed_bytes : Stmt := top 15
abbrev s__law_needed : Stmt := top 16
abbrev s__law_read : Stmt := top 17
abbrev s_law : Stmt := top 18
theorem sc_write_unsigned : FnScope ["number", "data"] ["number"] (defScope s_write_unsigned) := ⟨rfl, rfl, rfl, by decide +kernel, rfl, by decide +kernel, by decide +kernel⟩
theorem sc_write_signed : FnScope ["number", "data"] ["number"] (defScope s_write_signed) := ⟨rfl, rfl, rfl, by decide +kernel, rfl, by decide +kernel, by decide +kernel⟩
theorem sc_byte_at : FnScope ["data", "place", "end"] ["data", "place", "end"] (defScope s_byte_at) := ⟨rfl, rfl, rfl, by decide +kernel, rfl, by decide +kernel, by decide +kernel⟩
theorem sc_read_groups : FnScope ["data", "place", "end", "bits", "low", "left", "byte"] ["data", "place", "end", "bits"] (defScope s_read_groups) := ⟨rfl, rfl, rfl, by decide +kernel, rfl, by decide +kernel, by decide +kernel⟩
theorem sc_read_unsigned : FnScope ["data", "place", "end", "bits", "low", "last", "left"] ["data", "place", "end", "bits"] (defScope s_read_unsigned) := ⟨rfl, rfl, rfl, by decide +kernel, rfl, by decide +kernel, by decide +kernel⟩
theorem sc_read_signed : FnScope ["data", "place", "end", "bits", "low", "last", "left", "bound"] ["data", "place", "end", "bits"] (defScope s_read_signed) := ⟨rfl, rfl, rfl, by decide +kernel, rfl, by decide +kernel, by decide +kernel⟩
theorem sc__law_is_integer : FnScope ["actual"] ["actual"] (defScope s__law_is_integer) := ⟨rfl, rfl, rfl, by decide +kernel, rfl, by decide +kernel, by decide +kernel⟩
theorem sc__law_signed : FnScope ["number", "bits", "low"] ["number", "bits"] (defScope s__law_signed) := ⟨rfl, rfl, rfl, by decide +kernel, rfl, by decide +kernel, by decide +kernel⟩
theorem sc__law_is_bytes : FnScope ["data", "byte"] ["data"] (defScope s__law_is_bytes) := ⟨rfl, rfl, rfl, by decide +kernel, rfl, by decide +kernel, by decide +kernel⟩
theorem sc__law_unsigned : FnScope ["number", "data", "k", "group"] ["number"] (defScope s__law_unsigned) := ⟨rfl, rfl, rfl, by decide +kernel, rfl, by decide +kernel, by decide +kernel⟩
theorem sc__law_signed_bytes : FnScope ["number", "data", "k", "group"] ["number"] (defScope s__law_signed_bytes) := ⟨rfl, rfl, rfl, by decide +kernel, rfl, by decide +kernel, by decide +kernel⟩
theorem sc__law_needed : FnScope ["number", "with_sign", "bits", "k"] ["number", "with_sign"] (defScope s__law_needed) := ⟨rfl, rfl, rfl, by decide +kernel, rfl, by decide +kernel, by decide +kernel⟩
theorem sc__law_read : FnScope ["data", "number", "before", "behind", "with_sign", "file", "place", "bits", "told", "byte"] ["data", "number", "before", "behind", "with_sign"] (defScope s__law_read) := ⟨rfl, rfl, rfl, by decide +kernel, rfl, by decide +kernel, by decide +kernel⟩
theorem sc_law : FnScope ["script", "cells", "k", "cell", "power", "number", "before", "behind", "low", "data", "value"] ["script"] (defScope s_law) := ⟨rfl, rfl, rfl, by decide +kernel, rfl, by decide +kernel, by decide +kernel⟩
/-- where the own classes stand -/
structure Cs where
  C_HostError : Addr
  C_DecodeError : Addr
  I_DecodeError : Addr
  D_DecodeError : FuncData
abbrev i_DecodeError : Stmt := inClass (top 2) 0
theorem sci_DecodeError : FnScope ["self", "reason", "place"] ["self", "reason", "place"] (defScope i_DecodeError) := ⟨rfl, rfl, rfl, by decide +kernel, rfl, by decide +kernel, by decide +kernel⟩
/-- what the top leaves: built-in names that nothing binds, own classes -/
structure Tp (w : World) (K : PySem.W.Frag) (mg : Str → Option Value) (cs : Cs) : Prop where
  m_bool : mg "bool" = none
  m_int : mg "int" = none
  m_isinstance : mg "isinstance" = none
  m_len : mg "len" = none
  m_list : mg "list" = none
  m_range : mg "range" = none
  m_tuple : mg "tuple" = none
  g_HostError : mg "HostError" = some (.ref cs.C_HostError)
  g_DecodeError : mg "DecodeError" = some (.ref cs.C_DecodeError)
  e_DecodeError : ExK K mg "DecodeError" cs.C_DecodeError
  iC_DecodeError : PySem.W.findIn K (.ref cs.C_DecodeError) "__init__" = some (some (.ref cs.I_DecodeError))
  tI_DecodeError : PySem.W.typeIn K (.ref cs.I_DecodeError) = some (.type "function")
  F_DecodeError : L2.Fun K "__init__" "DecodeError.__init__" i_DecodeError cs.I_DecodeError cs.D_DecodeError
  b_DecodeError : Binds K cs.D_DecodeError ["self", "reason", "place"] []
  no_DecodeError_reason : PySem.W.findIn K (.ref cs.C_DecodeError) "reason" = some none
  no_DecodeError_place : PySem.W.findIn K (.ref cs.C_DecodeError) "place" = some none
  kit_DecodeError_HostError : PySem.W.kitOne K (.ref cs.C_DecodeError) (.ref cs.C_HostError) = some true
  exm_DecodeError_HostError : PySem.W.exmOne K (.ref cs.C_DecodeError) (.ref cs.C_HostError) = some true
  kit_DecodeError_DecodeError : PySem.W.kitOne K (.ref cs.C_DecodeError) (.ref cs.C_DecodeError) = some true
  exm_DecodeError_DecodeError : PySem.W.exmOne K (.ref cs.C_DecodeError) (.ref cs.C_DecodeError) = some true
  kit_DecodeError_VE : PySem.W.kitOne K (.ref cs.C_DecodeError) (.type "ValueError") = some true
theorem in_DecodeError {P : Program} {w : World} {K : PySem.W.Frag} {mg : Str → Option Value} {base : Heap} {cs : Cs} (T : Tp w K mg cs) : FnOk P w K mg base CX0 1 cs.I_DecodeError cs.D_DecodeError ["self", "reason", "place"] (spI2 K cs.C_DecodeError "reason" "place") :=
  init2 T.F_DecodeError sci_DecodeError T.e_DecodeError.T T.no_DecodeError_reason T.no_DecodeError_place rfl (.inl rfl) (.inl rfl) (.inl rfl) (by decide) (by decide) (by decide) (by decide)
/-! ### lists of ints that are the same -/
theorem dp_all {K : PySem.W.Frag} {H : Hp} : ∀ ns : List Int, DpAll K H (ns.map V.int) (ns.map PyData.int)
  | [] => .nil
  | _ :: r => .cons (.int _) (dp_all r)
theorem canlay_ints : ∀ ns : List Int, PyData.canLayAll0 (ns.map PyData.int) = true
  | [] => rfl
  | _ :: r => by
    show PyData.canLayAll0 (PyData.int _ :: r.map PyData.int) = true
    simp only [PyData.canLayAll0, PyData.canLay0, canlay_ints r, Bool.and_self]
theorem depth_ints : ∀ ns : List Int, PyData.depthAll (ns.map PyData.int) ≤ 63
  | [] => by simp [PyData.depthAll]
  | _ :: r => by
    have h := depth_ints r
    simp [PyData.depthAll, PyData.depth] at h ⊢
    exact h
theorem shaped_ints (ns : List Int) : SeqAt.shaped (.list (ns.map PyData.int)) = true := by
  unfold SeqAt.shaped
  rw [Bool.and_eq_true]
  refine ⟨?_, decide_eq_true ?_⟩
  · simp only [PyData.canLay0, canlay_ints]
  · have h := depth_ints ns
    simp only [PyData.depth] at h ⊢
    omega
theorem eqD_same {K : PySem.W.Frag} {H : Hp} {x y : V} {d : PyData} {Q : VK} (h1 : Dp K H x d) (h2 : Dp K H y d) (s : SeqAt.shaped d = true) (q : Q (.bl true) H) : rEqD K x y H Q :=
  ⟨d, d, h1, h2, s, s, by rw [SeqAt.eqv_refl d (SeqAt.canLay_of_shaped s)]; exact q⟩
theorem neD_same {K : PySem.W.Frag} {H : Hp} {x y : V} {d : PyData} {Q : VK} (h1 : Dp K H x d) (h2 : Dp K H y d) (s : SeqAt.shaped d = true) (q : Q (.bl false) H) : rNeD K x y H Q :=
  ⟨d, d, h1, h2, s, s, by rw [SeqAt.eqv_refl d (SeqAt.canLay_of_shaped s)]; exact q⟩
theorem dp_ints {K : PySem.W.Frag} {H : Hp} {a : Addr} {ns : List Int} (h : SqL K H a (ns.map V.int)) : Dp K H (.ref a) (.list (ns.map PyData.int)) := .lst h (dp_all ns)
theorem eqv_ints (ns : List Int) : PyData.eqv (.list (ns.map PyData.int)) (.list (ns.map PyData.int)) = true := SeqAt.eqv_refl _ (SeqAt.canLay_of_shaped (shaped_ints ns))

/-! ### numbers in groups of seven bits: what the defs compute -/
def wu (n : Int) : List Int := if h : n < 128 then [n] else (128 + n % 128) :: wu (n / 128)
termination_by n.toNat
decreasing_by omega
def ws (n : Int) : List Int := if h : -64 ≤ n ∧ n ≤ 63 then [n % 128] else (128 + n % 128) :: ws (n / 128)
termination_by n.natAbs
decreasing_by omega
theorem wu_len : ∀ (k : Nat) (n : Int), 0 ≤ n → n < 128 ^ k → (wu n).length ≤ max k 1
  | 0, n, h0, h => by
    have : n = 0 := by simp at h; omega
    subst this
    rw [wu, dif_pos (by decide)]; simp
  | k + 1, n, h0, h => by
    rw [wu]
    split
    · simp
    · have e : (128 : Int) ^ (k + 1) = 128 ^ k * 128 := Int.pow_succ 128 k
      have p : (0 : Int) < 128 ^ k := Int.pow_pos (by decide)
      have ih := wu_len k (n / 128) (by omega) (by omega)
      simp only [List.length_cons]
      have hk : k ≠ 0 := fun z => by subst z; simp at h; omega
      omega
theorem ws_len : ∀ (k : Nat) (n : Int), -(64 * 128 ^ k) ≤ n → n < 64 * 128 ^ k → (ws n).length ≤ k + 1
  | 0, n, h0, h => by
    rw [ws, dif_pos (by omega)]; simp
  | k + 1, n, h0, h => by
    rw [ws]
    split
    · simp
    · have e : (128 : Int) ^ (k + 1) = 128 ^ k * 128 := Int.pow_succ 128 k
      have p : (0 : Int) < 128 ^ k := Int.pow_pos (by decide)
      have ih := ws_len k (n / 128) (by omega) (by omega)
      simp only [List.length_cons]
      omega
theorem wu_bytes (n : Int) (h : 0 ≤ n) : ∀ b ∈ wu n, 0 ≤ b ∧ b ≤ 255 := by
  rw [wu]
  split
  · intro b hb
    rw [List.mem_singleton] at hb; omega
  · intro b hb
    rcases List.mem_cons.mp hb with rfl | hb
    · omega
    · exact wu_bytes (n / 128) (by omega) b hb
termination_by n.toNat
decreasing_by omega
theorem ws_bytes (n : Int) : ∀ b ∈ ws n, 0 ≤ b ∧ b ≤ 255 := by
  rw [ws]
  split
  · intro b hb
    rw [List.mem_singleton] at hb; omega
  · intro b hb
    rcases List.mem_cons.mp hb with rfl | hb
    · omega
    · exact ws_bytes (n / 128) b hb
termination_by n.natAbs
decreasing_by omega
abbrev ER (α : Type) := Except (Str × Nat) α
/-- the groups from the place p on, left bits left: the sum so far, the last byte, what is left, its place -/
def grp (xs : List Int) (e b : Nat) (p left : Nat) (low : Int) : ER (Int × Int × Nat × Nat) :=
  if e ≤ p then .error ("unexpected end", e)
  else if xs.getD p 0 < 128 then .ok (low, xs.getD p 0, left, p)
  else if h : left ≤ 7 then .error ("number too long", p)
  else grp xs e b (p + 1) (left - 7) (low + (xs.getD p 0 - 128) * 2 ^ (b - left))
termination_by left
decreasing_by omega
theorem grp_ok {xs : List Int} {e b : Nat} {p left : Nat} {low : Int} {r : Int × Int × Nat × Nat} (h : grp xs e b p left low = .ok r) (h1 : 1 ≤ left) :
    r.2.1 = xs.getD r.2.2.2 0 ∧ r.2.1 < 128 ∧ 1 ≤ r.2.2.1 ∧ r.2.2.1 ≤ left ∧ p ≤ r.2.2.2 ∧ r.2.2.2 < e := by
  rw [grp] at h
  split at h
  · cases h
  · split at h
    · cases h
      rename_i a b
      exact ⟨rfl, b, h1, Nat.le_refl _, Nat.le_refl _, by show p < e; omega⟩
    · split at h
      · cases h
      · have ih := grp_ok h (by omega)
        exact ⟨ih.1, ih.2.1, ih.2.2.1, by omega, by omega, ih.2.2.2.2.2⟩
termination_by left
decreasing_by omega
def rdU (xs : List Int) (p e b : Nat) : ER (Int × Nat) :=
  match grp xs e b p b 0 with
  | .error r => .error r
  | .ok (lo, by_, l, q) => if l < 7 ∧ by_ ≥ 2 ^ l then .error ("number too large", q) else .ok (lo + by_ * 2 ^ (b - l), q + 1)
def tos (x : Int) : Int := if x ≥ 64 then x - 128 else x
def rdS (xs : List Int) (p e b : Nat) : ER (Int × Nat) :=
  match grp xs e b p b 0 with
  | .error r => .error r
  | .ok (lo, by_, l, q) => if tos by_ < -(2 ^ (l - 1)) ∨ tos by_ ≥ 2 ^ (l - 1) then .error ("number too large", q) else .ok (lo + tos by_ * 2 ^ (b - l), q + 1)
/-! ### promises -/
def Bys (xs : List Int) : Prop := ∀ x ∈ xs, 0 ≤ x ∧ x ≤ 255
theorem bys_nil : Bys [] := fun _ h => nomatch h
theorem Bys.at {xs : List Int} (h : Bys xs) (k : Nat) : 0 ≤ xs.getD k 0 ∧ xs.getD k 0 ≤ 255 := by
  rw [List.getD_eq_getElem?_getD]
  cases e : xs[k]? with
  | none => exact ⟨by decide, by decide⟩
  | some v => exact h v (List.mem_of_getElem? e)
/-- a DecodeError flies; all that was tracked stands -/
def Dec (cs : Cs) (H : Hp) (E : XK) (r : Str) (n : Nat) : Prop := ∀ d Hf, Same H Hf → Hf d = some (.xd [("place", .int n), ("reason", .str r)]) → E (.ref cs.C_DecodeError) (some d) Hf
theorem Dec.of {cs : Cs} {H H1 : Hp} {E : XK} {r : Str} {n : Nat} (h : Dec cs H E r n) (s : Same H H1) : Dec cs H1 E r n := fun d Hf s2 e => h d Hf (s.trans s2) e
/-- a new tuple of these -/
def Tup (H : Hp) (Q : VK) (vs : List V) : Prop := ∀ t Hf, Same H Hf → Hf t = some (.tup vs) → Q (.ref t) Hf
theorem Tup.of {H H1 : Hp} {Q : VK} {vs : List V} (h : Tup H Q vs) (s : Same H H1) : Tup H1 Q vs := fun t Hf s2 e => h t Hf (s.trans s2) e
/-- a new list of these ints -/
def Lst (H : Hp) (Q : VK) (ns : List Int) : Prop := ∀ p Hf, Same H Hf → H p = none → Hf p = some (.lst (ns.map V.int)) → Q (.ref p) Hf
def sp_write_unsigned (K : PySem.W.Frag) (cs : Cs) : Sp := fun vs H Q _ => ∃ n : Int, vs = [.int n] ∧ 0 ≤ n ∧ n < 128 ^ 20 ∧ Lst H Q (wu n)
def sp_write_signed (K : PySem.W.Frag) (cs : Cs) : Sp := fun vs H Q _ => ∃ n : Int, vs = [.int n] ∧ -(64 * 128 ^ 20) ≤ n ∧ n < 64 * 128 ^ 20 ∧ Lst H Q (ws n)
def sp_byte_at (K : PySem.W.Frag) (cs : Cs) : Sp := fun vs H Q E => ∃ (a : Addr) (xs : List Int) (p e : Nat), vs = [.ref a, .int p, .int e] ∧ SqL K H a (xs.map V.int) ∧ e ≤ xs.length ∧
  (p < e → Q (.int (xs.getD p 0)) H) ∧ (e ≤ p → Dec cs H E "unexpected end" e)
def sp_read_groups (K : PySem.W.Frag) (cs : Cs) : Sp := fun vs H Q E => ∃ (a : Addr) (xs : List Int) (p e b : Nat), vs = [.ref a, .int p, .int e, .int b] ∧ SqL K H a (xs.map V.int) ∧ Bys xs ∧ e ≤ xs.length ∧ 1 ≤ b ∧ b ≤ 64 ∧
  (∀ r, grp xs e b p b 0 = .error r → Dec cs H E r.1 r.2) ∧ (∀ r, grp xs e b p b 0 = .ok r → Tup H Q [.int r.1, .int r.2.1, .int r.2.2.1, .int r.2.2.2])
def spRd (f : List Int → Nat → Nat → Nat → ER (Int × Nat)) (K : PySem.W.Frag) (cs : Cs) : Sp := fun vs H Q E => ∃ (a : Addr) (xs : List Int) (p e b : Nat), vs = [.ref a, .int p, .int e, .int b] ∧ SqL K H a (xs.map V.int) ∧ Bys xs ∧ e ≤ xs.length ∧ 1 ≤ b ∧ b ≤ 64 ∧
  (∀ r, f xs p e b = .error r → Dec cs H E r.1 r.2) ∧ (∀ r, f xs p e b = .ok r → Tup H Q [.int r.1, .int r.2])
def sp_read_unsigned (K : PySem.W.Frag) (cs : Cs) : Sp := spRd rdU K cs
def sp_read_signed (K : PySem.W.Frag) (cs : Cs) : Sp := spRd rdS K cs
section
variable {P : Program} {w : World} {K : PySem.W.Frag} {mg : Str → Option Value} {base : Heap} {cs : Cs}
theorem c_write_unsigned (D : Def K mg "write_unsigned" s_write_unsigned ["number"]) (T : Tp w K mg cs)  : Cal P w K mg base CX0 1 "write_unsigned" (sp_write_unsigned K cs) := by
  refine D.ok sc_write_unsigned (fun vs H Q E h => ?_) (fun f cdv A outer s H vs Q E hr h => ?_)
  · obtain ⟨n, rfl, _⟩ := h; rfl
  · obtain ⟨n, rfl, h0, h1, q⟩ := h
    refine ⟨_, (pss_cons (ps_set (i := 1) sc_write_unsigned.nd rfl (by first | exact Or.inl rfl | exact Or.inr rfl) (pe_lst pa_nil))
      (pss_cons (ps_while PassesOwn.never (pt_cmpR op_ge (pv 0) pe_int (by first | rfl | exact nomark _)) (pss_cons (ps_expr (pe_bm PySem.F.plainAttrs_list PySem.F.slot_list_append PySem.F.type_list_append mt_append (pv 1) (pa_cons (pe_op op_add pe_int (pe_op op_and (pv 0) pe_int)) pa_nil)))
      (pss_one (ps_set (i := 0) sc_write_unsigned.nd rfl (by first | exact Or.inl rfl | exact Or.inr rfl) (pe_op op_shr (pv 0) pe_int)))))
      (pss_cons (ps_expr (pe_bm PySem.F.plainAttrs_list PySem.F.slot_list_append PySem.F.type_list_append mt_append (pv 1) (pa_cons (pv 0) pa_nil)))
      (pss_one (ps_ret (pv 1)))))), ?_⟩
    refine ⟨Nat.zero_le _, fun p hp => ?_⟩
    have hlen : (wu n).length ≤ 20 := wu_len 20 n h0 h1
    refine while_ev (fun σ H2 => ∃ (m : Int) (acc : List Int), σ = [some (.int m), some (.ref p)] ∧ 0 ≤ m ∧ acc ++ wu m = wu n ∧ Same H H2 ∧ H2 p = some (.lst (acc.map V.int)))
      (fun σ _ => match σ with | [some (.int m), _] => m.toNat | _ => 0) ⟨n, [], rfl, h0, rfl, Same.new hp, upd_same⟩ ?_
    rintro _ H2 ⟨m, acc, rfl, hm, ha, s2, hl⟩
    refine ⟨decide (128 ≤ m), fun Q2 q2 => by walk_at "go"; exact q2, fun c => ?_, fun c => ?_⟩
    · have c' : 128 ≤ m := of_decide_eq_true c
      have e1 : wu m = (128 + m % 128) :: wu (m / 128) := by rw [wu, dif_neg (by omega)]
      have hla : acc.length < 20 := by rw [← ha, List.length_append, e1, List.length_cons] at hlen; omega
      refine ⟨_, rfl, .inl ⟨rfl, _, SqL.of hl⟩, ?_⟩
      walk_at "go"
      refine ⟨_, _, _, rfl, rfl, hl, (by rw [List.length_map]; exact small64' (by omega)), ?_⟩
      walk_at "go"
      rw [show Builtin.bitAnd m 127 = m % 128 from PySem.W.kbt_mask m 7]
      refine ⟨⟨m / 128, acc ++ [128 + m % 128], rfl, by omega, by rw [List.append_assoc]; show acc ++ ((128 + m % 128) :: wu (m / 128)) = _; rw [← e1]; exact ha, fun b o e => ?_, ?_⟩, ?_⟩
      · rw [upd_ne (ne_of_none e hp)]; exact s2 _ _ e
      · rw [upd_same, List.map_append]; rfl
      · show (m / 128).toNat < m.toNat
        omega
    · have c' : ¬ 128 ≤ m := of_decide_eq_false c
      have e1 : wu m = [m] := by rw [wu, dif_pos (by omega)]
      have hla : acc.length < 20 := by rw [← ha, List.length_append, e1, List.length_singleton] at hlen; omega
      refine ⟨_, rfl, .inl ⟨rfl, _, SqL.of hl⟩, ?_⟩
      walk_at "go"
      refine ⟨_, _, _, rfl, rfl, hl, (by rw [List.length_map]; exact small64' (by omega)), ?_⟩
      walk_at "go"
      refine q p _ (fun b o e => ?_) hp ?_
      · rw [upd_ne (ne_of_none e hp)]; exact s2 _ _ e
      · rw [upd_same, ← ha, e1, List.map_append]; rfl
theorem c_write_signed (D : Def K mg "write_signed" s_write_signed ["number"]) (T : Tp w K mg cs)  : Cal P w K mg base CX0 1 "write_signed" (sp_write_signed K cs) := by
  refine D.ok sc_write_signed (fun vs H Q E h => ?_) (fun f cdv A outer s H vs Q E hr h => ?_)
  · obtain ⟨n, rfl, _⟩ := h; rfl
  · obtain ⟨n, rfl, h0, h1, q⟩ := h
    refine ⟨_, (pss_cons (ps_set (i := 1) sc_write_signed.nd rfl (by first | exact Or.inl rfl | exact Or.inr rfl) (pe_lst pa_nil))
      (pss_cons (ps_while PassesOwn.never (PW.pt (pw_or (pt_cmpR op_lt (pv 0) (pe_un un_neg pe_int) (by first | rfl | exact nomark _)) (pw_or1 (pt_cmpR op_gt (pv 0) pe_int (by first | rfl | exact nomark _))))) (pss_cons (ps_expr (pe_bm PySem.F.plainAttrs_list PySem.F.slot_list_append PySem.F.type_list_append mt_append (pv 1) (pa_cons (pe_op op_add pe_int (pe_op op_and (pv 0) pe_int)) pa_nil)))
      (pss_one (ps_set (i := 0) sc_write_signed.nd rfl (by first | exact Or.inl rfl | exact Or.inr rfl) (pe_op op_shr (pv 0) pe_int)))))
      (pss_cons (ps_expr (pe_bm PySem.F.plainAttrs_list PySem.F.slot_list_append PySem.F.type_list_append mt_append (pv 1) (pa_cons (pe_op op_and (pv 0) pe_int) pa_nil)))
      (pss_one (ps_ret (pv 1)))))), ?_⟩
    refine ⟨Nat.zero_le _, fun p hp => ?_⟩
    have hlen : (ws n).length ≤ 21 := ws_len 20 n h0 h1
    refine while_ev (fun σ H2 => ∃ (m : Int) (acc : List Int), σ = [some (.int m), some (.ref p)] ∧ acc ++ ws m = ws n ∧ Same H H2 ∧ H2 p = some (.lst (acc.map V.int)))
      (fun σ _ => match σ with | [some (.int m), _] => m.natAbs | _ => 0) ⟨n, [], rfl, rfl, Same.new hp, upd_same⟩ ?_
    rintro _ H2 ⟨m, acc, rfl, ha, s2, hl⟩
    refine ⟨decide (m < -64) || decide (63 < m), fun Q2 q2 => tor_b _ _ (fun Q q => by walk_at "go"; exact q) (fun Q q => by walk_at "go"; exact q) q2, fun c => ?_, fun c => ?_⟩
    · have c' : m < -64 ∨ 63 < m := by simpa using c
      have e1 : ws m = (128 + m % 128) :: ws (m / 128) := by rw [ws, dif_neg (by omega)]
      have hla : acc.length < 21 := by rw [← ha, List.length_append, e1, List.length_cons] at hlen; omega
      refine ⟨_, rfl, .inl ⟨rfl, _, SqL.of hl⟩, ?_⟩
      walk_at "go"
      refine ⟨_, _, _, rfl, rfl, hl, (by rw [List.length_map]; exact small64' (by omega)), ?_⟩
      walk_at "go"
      rw [show Builtin.bitAnd m 127 = m % 128 from PySem.W.kbt_mask m 7]
      refine ⟨⟨m / 128, acc ++ [128 + m % 128], rfl, by rw [List.append_assoc]; show acc ++ ((128 + m % 128) :: ws (m / 128)) = _; rw [← e1]; exact ha, fun b o e => ?_, ?_⟩, ?_⟩
      · rw [upd_ne (ne_of_none e hp)]; exact s2 _ _ e
      · rw [upd_same, List.map_append]; rfl
      · show (m / 128).natAbs < m.natAbs
        omega
    · have c' : ¬ (m < -64 ∨ 63 < m) := by simpa using c
      have e1 : ws m = [m % 128] := by rw [ws, dif_pos (by omega)]
      have hla : acc.length < 21 := by rw [← ha, List.length_append, e1, List.length_singleton] at hlen; omega
      refine ⟨_, rfl, .inl ⟨rfl, _, SqL.of hl⟩, ?_⟩
      walk_at "go"
      refine ⟨_, _, _, rfl, rfl, hl, (by rw [List.length_map]; exact small64' (by omega)), ?_⟩
      walk_at "go"
      refine q p _ (fun b o e => ?_) hp ?_
      · rw [upd_ne (ne_of_none e hp)]; exact s2 _ _ e
      · rw [upd_same, ← ha, e1, List.map_append]
        show some (HO.lst (List.map V.int acc ++ [V.int (Builtin.bitAnd m 127)])) = _
        rw [show Builtin.bitAnd m 127 = m % 128 from PySem.W.kbt_mask m 7]; rfl
theorem c_byte_at (D : Def K mg "byte_at" s_byte_at ["data", "place", "end"]) (T : Tp w K mg cs)  : Cal P w K mg base (L2.CX P w) 3 "byte_at" (sp_byte_at K cs) := by
  refine D.okX sc_byte_at (fun vs H Q E h => ?_) (fun f cdv A outer s H vs Q E hr h => ?_)
  · obtain ⟨a, xs, p, e, rfl, _⟩ := h; rfl
  · obtain ⟨a, xs, p, e, rfl, hS, he, q1, q2⟩ := h
    refine ⟨_, (pss_cons (ps_if (pt_cmpR op_ge (pv 1) (pv 2) (by first | rfl | exact nomark _)) (pss_one (ps_raise rfl (takes_of rfl rfl rfl rfl) (pmk_oex T.e_DecodeError.T T.iC_DecodeError T.tI_DecodeError (in_DecodeError T) (hr.mono (by decide)) T.b_DecodeError .nil pass0 (by rfl) T.e_DecodeError.g (pa_cons pe_str (pa_cons (pv 2) pa_nil))))) pss_nil)
      (pss_one (ps_ret (pe_ix ix_list (pv 0) (pv 1) (fun _ _ => rfl))))), ?_⟩
    walk_at "go"
    refine ite2 (fun c => ?_) (fun c => ?_)
    · have c' : e ≤ p := by have := of_decide_eq_true c; omega
      walk_at "go"
      exact fly2 fun d Hf s1 e1 => q2 c' d Hf s1 e1
    · have c' : p < e := by have := of_decide_eq_false (Bool.eq_false_iff.mpr c); omega
      have hp : p < xs.length := by omega
      walk_at "go"
      exact q1 c'
theorem c_read_groups (D : Def K mg "read_groups" s_read_groups ["data", "place", "end", "bits"]) (T : Tp w K mg cs) (c_byte_at : Cal P w K mg base (L2.CX P w) 3 "byte_at" (sp_byte_at K cs)) : Cal P w K mg base (L2.CX P w) 4 "read_groups" (sp_read_groups K cs) := by
  refine D.okX sc_read_groups (fun vs H Q E h => ?_) (fun f cdv A outer s H vs Q E hr h => ?_)
  · obtain ⟨a, xs, p, e, b, rfl, _⟩ := h; rfl
  · obtain ⟨a, xs, p, e, b, rfl, hS, hB, he, hb1, hb2, q1, q2⟩ := h
    refine ⟨_, (pss_cons (ps_set (i := 4) sc_read_groups.nd rfl (by first | exact Or.inl rfl | exact Or.inr rfl) pe_int)
      (pss_cons (ps_set (i := 5) sc_read_groups.nd rfl (by first | exact Or.inl rfl | exact Or.inr rfl) (pv 3))
      (pss_cons (ps_set (i := 6) sc_read_groups.nd rfl (by first | exact Or.inl rfl | exact Or.inr rfl) (pe_cE c_byte_at hr (by decide) (passes_call (takes_of rfl rfl rfl rfl) (fun _ _ _ _ h => h)) (by rfl) (pa_cons (pv 0) (pa_cons (pv 1) (pa_cons (pv 2) pa_nil)))))
      (pss_cons (ps_while (passes_of rfl) (pt_cmpR op_ge (pv 6) pe_int (by first | rfl | exact nomark _)) (pss_cons (ps_if (pt_cmpR op_le (pv 5) pe_int (by first | rfl | exact nomark _)) (pss_one (ps_raise rfl (takes_of rfl rfl rfl rfl) (pmk_oex T.e_DecodeError.T T.iC_DecodeError T.tI_DecodeError (in_DecodeError T) (hr.mono (by decide)) T.b_DecodeError .nil pass0 (by rfl) T.e_DecodeError.g (pa_cons pe_str (pa_cons (pv 1) pa_nil))))) pss_nil)
      (pss_cons (ps_set (i := 4) sc_read_groups.nd rfl (by first | exact Or.inl rfl | exact Or.inr rfl) (pe_op op_add (pv 4) (pe_op op_shlS (pe_op op_sub (pv 6) pe_int) (pe_op op_sub (pv 3) (pv 5)))))
      (pss_cons (ps_set (i := 5) sc_read_groups.nd rfl (by first | exact Or.inl rfl | exact Or.inr rfl) (pe_op op_sub (pv 5) pe_int))
      (pss_cons (ps_set (i := 1) sc_read_groups.nd rfl (by first | exact Or.inl rfl | exact Or.inr rfl) (pe_op op_add (pv 1) pe_int))
      (pss_one (ps_set (i := 6) sc_read_groups.nd rfl (by first | exact Or.inl rfl | exact Or.inr rfl) (pe_cE c_byte_at hr (by decide) (passes_call (takes_of rfl rfl rfl rfl) (fun _ _ _ _ h => h)) (by rfl) (pa_cons (pv 0) (pa_cons (pv 1) (pa_cons (pv 2) pa_nil)))))))))))
      (pss_one (ps_ret (pe_tup (pa_cons (pv 4) (pa_cons (pv 6) (pa_cons (pv 5) (pa_cons (pv 1) pa_nil))))))))))), ?_⟩
    walk_at "go"
    refine ⟨a, xs, p, e, rfl, hS, he, fun hp => ?_, fun hp => ?_⟩
    · refine while_ev (fun σ H2 => H2 = H ∧ ∃ (low : Int) (left p2 : Nat), σ = [some (.ref a), some (.int p2), some (.int e), some (.int b), some (.int low), some (.int left), some (.int (xs.getD p2 0))] ∧ 1 ≤ left ∧ left ≤ b ∧ p2 < e ∧ grp xs e b p b 0 = grp xs e b p2 left low)
        (fun σ _ => match σ with | [_, _, _, _, _, some (.int l), _] => l.toNat | _ => 0) ⟨rfl, 0, b, p, rfl, hb1, Nat.le_refl _, hp, rfl⟩ ?_
      rintro _ _ ⟨rfl, low, left, p2, rfl, hl1, hl2, hp2, hg⟩
      have hby := hB.at p2
      refine ⟨decide (128 ≤ xs.getD p2 0), fun Q2 q2 => by walk_at "go"; exact q2, fun c => ?_, fun c => ?_⟩
      · have c' : 128 ≤ xs.getD p2 0 := of_decide_eq_true c
        walk_at "go"
        refine ite2 (fun d => ?_) (fun d => ?_)
        · have d' : left ≤ 7 := by have := of_decide_eq_true d; omega
          have ee : grp xs e b p b 0 = .error ("number too long", p2) := by
            rw [hg, grp, if_neg (by omega), if_neg (by omega), dif_pos d']
          walk_at "go"
          exact fly2 fun dd Hf s1 e1 => q1 _ ee dd Hf s1 e1
        · have d' : ¬ left ≤ 7 := by have := of_decide_eq_false (Bool.eq_false_iff.mpr d); omega
          have ee : grp xs e b p b 0 = grp xs e b (p2 + 1) (left - 7) (low + (xs.getD p2 0 - 128) * 2 ^ (b - left)) := by
            rw [hg, grp, if_neg (by omega), if_neg (by omega), dif_neg d']
          have en : ((b : Int) - (left : Int)).toNat = b - left := by omega
          walk_at "go"
          refine ⟨⟨nat_small (by omega), by omega, by omega⟩, ?_⟩
          walk_at "go"
          refine ⟨a, xs, p2 + 1, e, by rfl, hS, he, fun hp3 => ?_, fun hp3 => ?_⟩
          · refine ⟨⟨rfl, _, left - 7, p2 + 1, ?_, by omega, by omega, hp3, ee⟩, ?_⟩
            · rw [show ((left - 7 : Nat) : Int) = (left : Int) - 7 by omega]
              simp only [en]
              rfl
            · show ((left : Int) - 7).toNat < (left : Int).toNat
              omega
          · have e4 : grp xs e b p b 0 = .error ("unexpected end", e) := by
              rw [ee, grp, if_pos hp3]
            exact fun dd Hf s1 e1 => q1 _ e4 dd Hf s1 e1
      · have c' : ¬ 128 ≤ xs.getD p2 0 := of_decide_eq_false c
        have ee : grp xs e b p b 0 = .ok (low, xs.getD p2 0, left, p2) := by
          rw [hg, grp, if_neg (by omega), if_pos (by omega)]
        walk_at "go"
        try refine And.intro (show 4 ≤ sizeLine by decide) ?_
        intro t ht
        exact q2 _ ee t _ (Same.new ht) upd_same
    · have e4 : grp xs e b p b 0 = .error ("unexpected end", e) := by rw [grp, if_pos hp]
      exact fun dd Hf s1 e1 => q1 _ e4 dd Hf s1 e1
theorem c_read_unsigned (D : Def K mg "read_unsigned" s_read_unsigned ["data", "place", "end", "bits"]) (T : Tp w K mg cs) (c_read_groups : Cal P w K mg base (L2.CX P w) 4 "read_groups" (sp_read_groups K cs)) : Cal P w K mg base (L2.CX P w) 5 "read_unsigned" (sp_read_unsigned K cs) := by
  refine D.okX sc_read_unsigned (fun vs H Q E h => ?_) (fun f cdv A outer s H vs Q E hr h => ?_)
  · obtain ⟨a, xs, p, e, b, rfl, _⟩ := h; rfl
  · obtain ⟨a, xs, p, e, b, rfl, hS, hB, he, hb1, hb2, q1, q2⟩ := h
    refine ⟨_, (pss_cons (ps_asg (pe_cE c_read_groups hr (by decide) (passes_call (takes_of rfl rfl rfl rfl) (fun _ _ _ _ h => h)) (by rfl) (pa_cons (pv 0) (pa_cons (pv 1) (pa_cons (pv 2) (pa_cons (pv 3) pa_nil))))) (pg_tup (by rfl) (pgs_cons (pg_name (i := 4) sc_read_unsigned.nd rfl (by first | exact Or.inl rfl | exact Or.inr rfl)) (pgs_cons (pg_name (i := 5) sc_read_unsigned.nd rfl (by first | exact Or.inl rfl | exact Or.inr rfl)) (pgs_cons (pg_name (i := 6) sc_read_unsigned.nd rfl (by first | exact Or.inl rfl | exact Or.inr rfl)) (pgs_cons (pg_name (i := 1) sc_read_unsigned.nd rfl (by first | exact Or.inl rfl | exact Or.inr rfl)) pgs_nil))))))
      (C8.pss_cut (ps_if (PW.pt (pw_and (pt_cmpR op_lt (pv 6) pe_int (by first | rfl | exact nomark _)) (pw_and1 (pt_cmpR op_ge (pv 5) (pe_op op_shl1 pe_int (pv 6)) (by first | rfl | exact nomark _))))) (pss_one (ps_raise rfl (takes_of rfl rfl rfl rfl) (pmk_oex T.e_DecodeError.T T.iC_DecodeError T.tI_DecodeError (in_DecodeError T) (hr.mono (by decide)) T.b_DecodeError .nil pass0 (by rfl) T.e_DecodeError.g (pa_cons pe_str (pa_cons (pv 1) pa_nil))))) pss_nil)
      (pss_one (ps_ret (pe_tup (pa_cons (pe_op op_add (pv 4) (pe_op op_shlS (pv 5) (pe_op op_sub (pv 3) (pv 6)))) (pa_cons (pe_op op_add (pv 1) pe_int) pa_nil))))))), ?_⟩
    walk_at "go"
    refine ⟨a, xs, p, e, b, rfl, hS, hB, he, hb1, hb2, fun r hr => ?_, fun r hr => ?_⟩
    · exact q1 r (by unfold rdU; rw [hr])
    obtain ⟨lo, by_, l, p2⟩ := r
    obtain ⟨k1, k2, k3, k4, k5, k6⟩ := grp_ok hr hb1
    dsimp only at k1 k2 k3 k4 k5 k6
    have hby := hB.at p2
    rw [← k1] at hby
    intro t Hf s1 ht
    have hT : SqT K Hf t [.int lo, .int by_, .int l, .int p2] := SqT.of ht
    refine ⟨t, _, rfl, hT, rfl, ?_⟩
    walk_at "go"
    have el : ((l : Nat) : Int).toNat = l := Int.toNat_natCast l
    have eb : ((b : Int) - (l : Int)).toNat = b - l := by omega
    refine ⟨fun σ H2 => ¬ (l < 7 ∧ by_ ≥ 2 ^ l) ∧ Hf = H2 ∧ σ = [some (.ref a), some (.int p2), some (.int e), some (.int b), some (.int lo), some (.int by_), some (.int l)], ?_, ?_⟩
    · walk_at "go"
      refine ite2 (fun c => ?_) (fun c => ?_)
      · have c1 : (l : Int) < 7 := of_decide_eq_true c
        walk_at "go"
        simp only [el]
        refine ite2 (fun c => ?_) (fun c => ?_)
        · have c2 : by_ ≥ 2 ^ l := of_decide_eq_true c
          have ee : rdU xs p e b = .error ("number too large", p2) := by unfold rdU; rw [hr]; exact if_pos ⟨by omega, c2⟩
          walk_at "go"
          exact fly2 fun dd Hf2 s2 e2 => q1 _ ee dd Hf2 (s1.trans s2) e2
        · have c2 : ¬ by_ ≥ 2 ^ l := of_decide_eq_false (Bool.eq_false_iff.mpr c)
          exact ⟨fun z => c2 z.2, rfl, rfl⟩
      · have c1 : ¬ (l : Int) < 7 := of_decide_eq_false (Bool.eq_false_iff.mpr c)
        refine iteF ?_
        exact ⟨fun z => c1 (by omega), rfl, rfl⟩
    rintro _ _ ⟨c', rfl, rfl⟩
    have ee : rdU xs p e b = .ok (lo + by_ * 2 ^ (b - l), p2 + 1) := by unfold rdU; rw [hr]; exact if_neg c'
    walk_at "go"
    refine ⟨⟨nat_small (by omega), by omega, by omega⟩, ?_⟩
    walk_at "go"
    try refine And.intro (show 2 ≤ sizeLine by decide) ?_
    intro u hu
    simp only [eb]
    exact q2 _ ee u _ (s1.trans (Same.new hu)) upd_same
theorem c_read_signed (D : Def K mg "read_signed" s_read_signed ["data", "place", "end", "bits"]) (T : Tp w K mg cs) (c_read_groups : Cal P w K mg base (L2.CX P w) 4 "read_groups" (sp_read_groups K cs)) : Cal P w K mg base (L2.CX P w) 5 "read_signed" (sp_read_signed K cs) := by
  refine D.okX sc_read_signed (fun vs H Q E h => ?_) (fun f cdv A outer s H vs Q E hr h => ?_)
  · obtain ⟨a, xs, p, e, b, rfl, _⟩ := h; rfl
  · obtain ⟨a, xs, p, e, b, rfl, hS, hB, he, hb1, hb2, q1, q2⟩ := h
    refine ⟨_, (pss_cons (ps_asg (pe_cE c_read_groups hr (by decide) (passes_call (takes_of rfl rfl rfl rfl) (fun _ _ _ _ h => h)) (by rfl) (pa_cons (pv 0) (pa_cons (pv 1) (pa_cons (pv 2) (pa_cons (pv 3) pa_nil))))) (pg_tup (by rfl) (pgs_cons (pg_name (i := 4) sc_read_signed.nd rfl (by first | exact Or.inl rfl | exact Or.inr rfl)) (pgs_cons (pg_name (i := 5) sc_read_signed.nd rfl (by first | exact Or.inl rfl | exact Or.inr rfl)) (pgs_cons (pg_name (i := 6) sc_read_signed.nd rfl (by first | exact Or.inl rfl | exact Or.inr rfl)) (pgs_cons (pg_name (i := 1) sc_read_signed.nd rfl (by first | exact Or.inl rfl | exact Or.inr rfl)) pgs_nil))))))
      (C8.pss_cut (ps_if (pt_cmpR op_ge (pv 5) pe_int (by first | rfl | exact nomark _)) (pss_one (ps_set (i := 5) sc_read_signed.nd rfl (by first | exact Or.inl rfl | exact Or.inr rfl) (pe_op op_sub (pv 5) pe_int))) pss_nil)
      (pss_cons (ps_set (i := 7) sc_read_signed.nd rfl (by first | exact Or.inl rfl | exact Or.inr rfl) (pe_op op_shl1 pe_int (pe_op op_sub (pv 6) pe_int)))
      (C8.pss_cut (ps_if (PW.pt (pw_or (pt_cmpR op_lt (pv 5) (pe_un un_neg (pv 7)) (by first | rfl | exact nomark _)) (pw_or1 (pt_cmpR op_ge (pv 5) (pv 7) (by first | rfl | exact nomark _))))) (pss_one (ps_raise rfl (takes_of rfl rfl rfl rfl) (pmk_oex T.e_DecodeError.T T.iC_DecodeError T.tI_DecodeError (in_DecodeError T) (hr.mono (by decide)) T.b_DecodeError .nil pass0 (by rfl) T.e_DecodeError.g (pa_cons pe_str (pa_cons (pv 1) pa_nil))))) pss_nil)
      (pss_one (ps_ret (pe_tup (pa_cons (pe_op op_add (pv 4) (pe_op op_shlS (pv 5) (pe_op op_sub (pv 3) (pv 6)))) (pa_cons (pe_op op_add (pv 1) pe_int) pa_nil))))))))), ?_⟩
    walk_at "go"
    refine ⟨a, xs, p, e, b, rfl, hS, hB, he, hb1, hb2, fun r hr => ?_, fun r hr => ?_⟩
    · exact q1 r (by unfold rdS; rw [hr])
    obtain ⟨lo, by_, l, p2⟩ := r
    obtain ⟨k1, k2, k3, k4, k5, k6⟩ := grp_ok hr hb1
    dsimp only at k1 k2 k3 k4 k5 k6
    have hby := hB.at p2
    rw [← k1] at hby
    intro t Hf s1 ht
    have hT : SqT K Hf t [.int lo, .int by_, .int l, .int p2] := SqT.of ht
    refine ⟨t, _, rfl, hT, rfl, ?_⟩
    walk_at "go"
    have el : ((l : Int) - 1).toNat = l - 1 := by omega
    have eb : ((b : Int) - (l : Int)).toNat = b - l := by omega
    have htos : -64 ≤ tos by_ ∧ tos by_ ≤ 63 := by unfold tos; split <;> omega
    refine ⟨fun σ H2 => Hf = H2 ∧ σ = [some (.ref a), some (.int p2), some (.int e), some (.int b), some (.int lo), some (.int (tos by_)), some (.int l), none], ?_, ?_⟩
    · walk_at "go"
      refine ite2 (fun c => ?_) (fun c => ?_)
      · have c' : by_ ≥ 64 := of_decide_eq_true c
        walk_at "go"
        rw [show tos by_ = by_ - 128 from if_pos c']; rfl
      · have c' : ¬ by_ ≥ 64 := of_decide_eq_false (Bool.eq_false_iff.mpr c)
        rw [show tos by_ = by_ from if_neg c']
        exact ⟨rfl, rfl⟩
    rintro _ _ ⟨rfl, rfl⟩
    walk_at "go"
    simp only [el]
    refine ⟨fun σ H2 => ¬ (tos by_ < -(2 ^ (l - 1)) ∨ tos by_ ≥ 2 ^ (l - 1)) ∧ Hf = H2 ∧ σ = [some (.ref a), some (.int p2), some (.int e), some (.int b), some (.int lo), some (.int (tos by_)), some (.int l), some (.int (2 ^ (l - 1)))], ?_, ?_⟩
    · have bad : (tos by_ < -(2 ^ (l - 1)) ∨ tos by_ ≥ 2 ^ (l - 1)) → rdS xs p e b = .error ("number too large", p2) := fun c => by unfold rdS; rw [hr]; exact if_pos c
      walk_at "go"
      refine ite2 (fun c => ?_) (fun c => ?_)
      · have c1 : tos by_ < -(2 ^ (l - 1)) := of_decide_eq_true c
        walk_at "go"
        exact fly2 fun dd Hf2 s2 e2 => q1 _ (bad (.inl c1)) dd Hf2 (s1.trans s2) e2
      · have c1 : ¬ tos by_ < -(2 ^ (l - 1)) := of_decide_eq_false (Bool.eq_false_iff.mpr c)
        walk_at "go"
        refine ite2 (fun c => ?_) (fun c => ?_)
        · have c2 : tos by_ ≥ 2 ^ (l - 1) := of_decide_eq_true c
          walk_at "go"
          exact fly2 fun dd Hf2 s2 e2 => q1 _ (bad (.inr c2)) dd Hf2 (s1.trans s2) e2
        · have c2 : ¬ tos by_ ≥ 2 ^ (l - 1) := of_decide_eq_false (Bool.eq_false_iff.mpr c)
          exact ⟨fun z => z.elim c1 c2, rfl, rfl⟩
    rintro _ _ ⟨c', rfl, rfl⟩
    have ee : rdS xs p e b = .ok (lo + tos by_ * 2 ^ (b - l), p2 + 1) := by unfold rdS; rw [hr]; exact if_neg c'
    walk_at "go"
    refine ⟨⟨nat_small (by omega), by omega, by omega⟩, ?_⟩
    walk_at "go"
    try refine And.intro (show 2 ≤ sizeLine by decide) ?_
    intro u hu
    simp only [eb]
    exact q2 _ ee u _ (s1.trans (Same.new hu)) upd_same
end

/-! ### the law's own helpers -/
def sp__law_is_bytes (K : PySem.W.Frag) (cs : Cs) : Sp := fun vs H Q _ => ∃ (a : Addr) (xs : List Int), vs = [.ref a] ∧ H a = some (.lst (xs.map V.int)) ∧ Bys xs ∧ xs.length ≤ 100000 ∧ Q (.bl true) H
def sp__law_is_integer (K : PySem.W.Frag) (cs : Cs) : Sp := fun vs H Q _ => ∃ n : Int, vs = [.int n] ∧ Q (.bl true) H
def sgnB (n : Int) (b : Nat) : Int := if n % 2 ^ b ≥ 2 ^ (b - 1) then n % 2 ^ b - 2 ^ b else n % 2 ^ b
def sp__law_signed (K : PySem.W.Frag) (cs : Cs) : Sp := fun vs H Q _ => ∃ (n : Int) (b : Nat), vs = [.int n, .int b] ∧ 1 ≤ b ∧ b ≤ 64 ∧ Q (.int (sgnB n b)) H
def sp__law_unsigned (K : PySem.W.Frag) (cs : Cs) : Sp := fun vs H Q _ => ∃ n : Int, vs = [.int n] ∧ 0 ≤ n ∧ n < 2 ^ 64 ∧ Lst H Q (wu n)
def sp__law_signed_bytes (K : PySem.W.Frag) (cs : Cs) : Sp := fun vs H Q _ => ∃ n : Int, vs = [.int n] ∧ -(2 ^ 63) ≤ n ∧ n < 2 ^ 63 ∧ Lst H Q (ws n)
/-- a number that fits into b bits, with a sign or without one -/
def Fit (sg : Bool) (n : Int) (b : Nat) : Prop := if sg then -(2 ^ (b - 1)) ≤ n ∧ n < 2 ^ (b - 1) else 0 ≤ n ∧ n < 2 ^ b
def sp__law_needed (K : PySem.W.Frag) (cs : Cs) : Sp := fun vs H Q _ => ∃ (n : Int) (sg : Bool), vs = [.int n, .bl sg] ∧ Fit sg n 64 ∧ ∀ b : Nat, 1 ≤ b → b ≤ 64 → Fit sg n b → Q (.int b) H
def wr (sg : Bool) (n : Int) : List Int := if sg then ws n else wu n
def sp__law_read (K : PySem.W.Frag) (cs : Cs) : Sp := fun vs H Q _ => ∃ (d b c : Addr) (n : Int) (sg : Bool) (pre post : List Int), vs = [.ref d, .int n, .ref b, .ref c, .bl sg] ∧ H d = some (.lst ((wr sg n).map V.int)) ∧ SqL K H b (pre.map V.int) ∧ SqL K H c (post.map V.int) ∧
  Bys pre ∧ Bys post ∧ pre.length ≤ 10 ∧ post.length ≤ 10 ∧ Fit sg n 64 ∧ ∀ Hf, Same H Hf → Q (.bl true) Hf
def sp_lawK (K : PySem.W.Frag) : Sp := fun vs H Q _ => ∃ (a : Addr) (ns : List Int), vs = [.ref a] ∧ SqL K H a (ns.map V.int) ∧ ns.length ≤ 63 ∧ ∀ H', Q (.bl true) H'
abbrev sp_law (K : PySem.W.Frag) (_ : Cs) : Sp := sp_lawK K
/-! ### what was written is read -/
theorem getD_app {pre xs post : List Int} (k : Nat) (h : k < xs.length) : (pre ++ xs ++ post).getD (pre.length + k) 0 = xs.getD k 0 := by
  rw [List.getD_eq_getElem?_getD, List.getD_eq_getElem?_getD, List.append_assoc, List.getElem?_append_right (by omega), Nat.add_sub_cancel_left, List.getElem?_append_left h]
theorem grp_wu (xs : List Int) (e b : Nat) : ∀ (k : Nat) (n : Int) (l p : Nat) (lo : Int), n.toNat < k → 0 ≤ n → n < 2 ^ l → 1 ≤ l → l ≤ b → (∀ i, i < (wu n).length → xs.getD (p + i) 0 = (wu n).getD i 0) → p + (wu n).length ≤ e →
    ∃ (lo' by_ : Int) (l' p' : Nat), grp xs e b p l lo = .ok (lo', by_, l', p') ∧ 0 ≤ by_ ∧ by_ < 2 ^ l' ∧ lo' + by_ * 2 ^ (b - l') = lo + n * 2 ^ (b - l) ∧ p' + 1 = p + (wu n).length
  | 0, _, _, _, _, hk, _, _, _, _, _, _ => absurd hk (Nat.not_lt_zero _)
  | k + 1, n, l, p, lo, hk, h0, h1, hl, hb, hx, he => by
    by_cases c : n < 128
    · have e1 : wu n = [n] := by rw [wu, dif_pos c]
      rw [e1] at hx he ⊢
      have hx0 : xs.getD p 0 = n := hx 0 (by simp)
      simp only [List.length_singleton] at he ⊢
      exact ⟨lo, n, l, p, by rw [grp, if_neg (by omega), if_pos (by rw [hx0]; exact c), hx0], h0, h1, rfl, rfl⟩
    · have e1 : wu n = (128 + n % 128) :: wu (n / 128) := by rw [wu, dif_neg c]
      rw [e1] at hx he ⊢
      simp only [List.length_cons] at hx he ⊢
      have hx0 : xs.getD p 0 = 128 + n % 128 := hx 0 (by omega)
      have hl7 : 7 < l := by
        rcases Nat.lt_or_ge 7 l with h | h
        · exact h
        · have : (2 : Int) ^ l ≤ 2 ^ 7 := by
            have := Nat.pow_le_pow_right (show 0 < 2 by decide) h
            exact_mod_cast this
          omega
      have e2 : (2 : Int) ^ l = 2 ^ (l - 7) * 128 := by
        rw [show (128 : Int) = 2 ^ 7 from rfl, ← Int.pow_add]; congr 1; omega
      have e3 : (2 : Int) ^ (b - (l - 7)) = 2 ^ (b - l) * 128 := by
        rw [show (128 : Int) = 2 ^ 7 from rfl, ← Int.pow_add]; congr 1; omega
      obtain ⟨lo', by_, l', p', g1, g2, g3, g4, g5⟩ := grp_wu xs e b k (n / 128) (l - 7) (p + 1) (lo + (xs.getD p 0 - 128) * 2 ^ (b - l)) (by omega) (by omega) (by omega) (by omega) (by omega)
        (fun i hi => by have := hx (i + 1) (by omega); rw [show p + 1 + i = p + (i + 1) by omega, this]; rfl) (by omega)
      refine ⟨lo', by_, l', p', ?_, g2, g3, ?_, by omega⟩
      · rw [grp, if_neg (by omega), if_neg (by omega), dif_neg (by omega)]; exact g1
      · rw [g4, hx0, e3, show 128 + n % 128 - 128 = n % 128 by omega, Int.add_assoc]
        congr 1
        rw [Int.mul_comm (n / 128), Int.mul_assoc, Int.mul_comm (n % 128), ← Int.mul_add, Int.mul_comm n]
        congr 1
        omega
theorem grp_ws (xs : List Int) (e b : Nat) : ∀ (k : Nat) (n : Int) (l p : Nat) (lo : Int), n.natAbs < k → -(2 ^ (l - 1)) ≤ n → n < 2 ^ (l - 1) → 1 ≤ l → l ≤ b → (∀ i, i < (ws n).length → xs.getD (p + i) 0 = (ws n).getD i 0) → p + (ws n).length ≤ e →
    ∃ (lo' by_ : Int) (l' p' : Nat), grp xs e b p l lo = .ok (lo', by_, l', p') ∧ -(2 ^ (l' - 1)) ≤ tos by_ ∧ tos by_ < 2 ^ (l' - 1) ∧ lo' + tos by_ * 2 ^ (b - l') = lo + n * 2 ^ (b - l) ∧ p' + 1 = p + (ws n).length
  | 0, _, _, _, _, hk, _, _, _, _, _, _ => absurd hk (Nat.not_lt_zero _)
  | k + 1, n, l, p, lo, hk, h0, h1, hl, hb, hx, he => by
    by_cases c : -64 ≤ n ∧ n ≤ 63
    · have e1 : ws n = [n % 128] := by rw [ws, dif_pos c]
      rw [e1] at hx he ⊢
      have hx0 : xs.getD p 0 = n % 128 := hx 0 (by simp)
      have et : tos (n % 128) = n := by unfold tos; split <;> omega
      simp only [List.length_singleton] at he ⊢
      exact ⟨lo, n % 128, l, p, by rw [grp, if_neg (by omega), if_pos (by rw [hx0]; omega), hx0], by rw [et]; exact h0, by rw [et]; exact h1, by rw [et], rfl⟩
    · have e1 : ws n = (128 + n % 128) :: ws (n / 128) := by rw [ws, dif_neg c]
      rw [e1] at hx he ⊢
      simp only [List.length_cons] at hx he ⊢
      have hx0 : xs.getD p 0 = 128 + n % 128 := hx 0 (by omega)
      have hl7 : 7 < l := by
        rcases Nat.lt_or_ge 7 l with h | h
        · exact h
        · have : (2 : Int) ^ (l - 1) ≤ 2 ^ 6 := by
            have := Nat.pow_le_pow_right (show 0 < 2 by decide) (show l - 1 ≤ 6 by omega)
            exact_mod_cast this
          omega
      have e2 : (2 : Int) ^ (l - 1) = 2 ^ (l - 7 - 1) * 128 := by
        rw [show (128 : Int) = 2 ^ 7 from rfl, ← Int.pow_add]; congr 1; omega
      have e3 : (2 : Int) ^ (b - (l - 7)) = 2 ^ (b - l) * 128 := by
        rw [show (128 : Int) = 2 ^ 7 from rfl, ← Int.pow_add]; congr 1; omega
      obtain ⟨lo', by_, l', p', g1, g2, g3, g4, g5⟩ := grp_ws xs e b k (n / 128) (l - 7) (p + 1) (lo + (xs.getD p 0 - 128) * 2 ^ (b - l)) (by omega) (by omega) (by omega) (by omega) (by omega)
        (fun i hi => by have := hx (i + 1) (by omega); rw [show p + 1 + i = p + (i + 1) by omega, this]; rfl) (by omega)
      refine ⟨lo', by_, l', p', ?_, g2, g3, ?_, by omega⟩
      · rw [grp, if_neg (by omega), if_neg (by omega), dif_neg (by omega)]; exact g1
      · rw [g4, hx0, e3, show 128 + n % 128 - 128 = n % 128 by omega, Int.add_assoc]
        congr 1
        rw [Int.mul_comm (n / 128), Int.mul_assoc, Int.mul_comm (n % 128), ← Int.mul_add, Int.mul_comm n]
        congr 1
        omega
theorem rdU_wu {pre post : List Int} {n : Int} {b e : Nat} (h : Fit false n b) (hb : 1 ≤ b) (he : pre.length + (wu n).length ≤ e) : rdU (pre ++ wu n ++ post) pre.length e b = .ok (n, pre.length + (wu n).length) := by
  obtain ⟨lo, by_, l, p, g1, g2, g3, g4, g5⟩ := grp_wu (pre ++ wu n ++ post) e b (n.toNat + 1) n b pre.length 0 (by omega) h.1 h.2 hb (Nat.le_refl _) (fun i hi => getD_app i hi) he
  unfold rdU
  rw [g1]
  dsimp only
  rw [if_neg (by omega), g4, Nat.sub_self, g5]
  simp
theorem rdS_ws {pre post : List Int} {n : Int} {b e : Nat} (h : Fit true n b) (hb : 1 ≤ b) (he : pre.length + (ws n).length ≤ e) : rdS (pre ++ ws n ++ post) pre.length e b = .ok (n, pre.length + (ws n).length) := by
  obtain ⟨lo, by_, l, p, g1, g2, g3, g4, g5⟩ := grp_ws (pre ++ ws n ++ post) e b (n.natAbs + 1) n b pre.length 0 (by omega) h.1 h.2 hb (Nat.le_refl _) (fun i hi => getD_app i hi) he
  unfold rdS
  rw [g1]
  dsimp only
  rw [if_neg (by omega), g4, Nat.sub_self, g5]
  simp
theorem sgnB_fit (n : Int) : Fit true (sgnB n 64) 64 := by
  have p0 : 0 ≤ n % 2 ^ 64 := Int.emod_nonneg _ (by decide)
  have p1 : n % 2 ^ 64 < 2 ^ 64 := Int.emod_lt_of_pos _ (by decide)
  show -(2 ^ 63) ≤ sgnB n 64 ∧ sgnB n 64 < 2 ^ 63
  unfold sgnB
  split <;> rename_i h <;> simp at h p0 p1 ⊢ <;> omega
theorem wr_bytes (sg : Bool) (n : Int) (h : Fit sg n 64) : Bys (wr sg n) := by
  cases sg with
  | true => exact ws_bytes n
  | false => exact wu_bytes n h.1
theorem wr_len (sg : Bool) (n : Int) (h : Fit sg n 64) : (wr sg n).length ≤ 12 := by
  cases sg with
  | true =>
    have := ws_len 10 n (by have := h.1; simp at this ⊢; omega) (by have := h.2; simp at this ⊢; omega)
    show (ws n).length ≤ 12
    omega
  | false =>
    have := wu_len 10 n h.1 (by have := h.2; simp at this ⊢; omega)
    show (wu n).length ≤ 12
    omega
section
variable {P : Program} {w : World} {K : PySem.W.Frag} {mg : Str → Option Value} {base : Heap} {cs : Cs}
theorem c__law_is_integer (D : Def K mg "_law_is_integer" s__law_is_integer ["actual"]) (T : Tp w K mg cs)  : Cal P w K mg base CX0 1 "_law_is_integer" (sp__law_is_integer K cs) := by
  refine D.ok sc__law_is_integer (fun vs H Q E h => ?_) (fun f cdv A outer s H vs Q E hr h => ?_)
  · obtain ⟨n, rfl, _⟩ := h; rfl
  · obtain ⟨n, rfl, q⟩ := h
    refine ⟨_, (pss_one (ps_ret (pe_and (pe_callB call_isi (by rfl) T.m_isinstance (by decide +kernel) (pa_cons (pv 0) (pa_cons (pe_bltn (v := .ty "int") (u := .type "int") (by rfl) T.m_int (by decide +kernel) rfl) pa_nil))) (pe_one (pe_not (pe_callB call_isi (by rfl) T.m_isinstance (by decide +kernel) (pa_cons (pv 0) (pa_cons (pe_bltn (v := .ty "bool") (u := .type "bool") (by rfl) T.m_bool (by decide +kernel) rfl) pa_nil)))))))), ?_⟩
    walk_at "go"
    exact q
theorem c__law_is_bytes (D : Def K mg "_law_is_bytes" s__law_is_bytes ["data"]) (T : Tp w K mg cs)  : Cal P w K mg base CX0 1 "_law_is_bytes" (sp__law_is_bytes K cs) := by
  refine D.ok sc__law_is_bytes (fun vs H Q E h => ?_) (fun f cdv A outer s H vs Q E hr h => ?_)
  · obtain ⟨a, xs, rfl, _⟩ := h; rfl
  · obtain ⟨a, xs, rfl, hS, hB, hn, q⟩ := h
    refine ⟨_, (pss_cons (ps_if (pt_not (pt_val (pe_callB call_isi (by rfl) T.m_isinstance (by decide +kernel) (pa_cons (pv 0) (pa_cons (pe_bltn (v := .ty "list") (u := .type "list") (by rfl) T.m_list (by decide +kernel) rfl) pa_nil))))) (pss_one (ps_ret pe_bl)) pss_nil)
      (pss_cons (ps_for PassesOwn.never rfl (pi_list (pv 0)) (pg_name (i := 1) sc__law_is_bytes.nd rfl (by first | exact Or.inl rfl | exact Or.inr rfl)) (pss_one (ps_if (PW.pt (pw_or (pt_not (pt_val (pe_callB call_isi (by rfl) T.m_isinstance (by decide +kernel) (pa_cons (pv 1) (pa_cons (pe_bltn (v := .ty "int") (u := .type "int") (by rfl) T.m_int (by decide +kernel) rfl) pa_nil))))) (pw_or (pt_val (pe_callB call_isi (by rfl) T.m_isinstance (by decide +kernel) (pa_cons (pv 1) (pa_cons (pe_bltn (v := .ty "bool") (u := .type "bool") (by rfl) T.m_bool (by decide +kernel) rfl) pa_nil)))) (pw_or (pt_cmpR op_lt (pv 1) pe_int (by first | rfl | exact nomark _)) (pw_or1 (pt_cmpR op_gt (pv 1) pe_int (by first | rfl | exact nomark _))))))) (pss_one (ps_ret pe_bl)) pss_nil)))
      (pss_one (ps_ret pe_bl)))), ?_⟩
    walk_at "go"
    refine ⟨⟨_, SqL.of hS⟩, for_list (K := K) (a := a) (xs := xs.map V.int) (fun i σ H2 => H2 = H ∧ ∃ v, σ = [some (.ref a), v]) ⟨rfl, _, rfl⟩ (fun i σ H2 _ h => by obtain ⟨rfl, _⟩ := h; exact SqL.of hS) ?_ ?_⟩
    · rintro i y σ H2 hi ⟨rfl, v, rfl⟩
      obtain ⟨b, hb, rfl⟩ := List.mem_map.mp (List.mem_of_getElem? hi)
      have hb := hB b hb
      walk_at "go"
      simp only [decide_eq_false (show ¬ b < 0 by omega)]
      walk_at "go"
      simp only [decide_eq_false (show ¬ 255 < b by omega)]
      walk_at "go"
      exact ⟨_, rfl⟩
    · rintro σ H2 ⟨rfl, v, rfl⟩
      exact q
theorem c__law_signed (D : Def K mg "_law_signed" s__law_signed ["number", "bits"]) (T : Tp w K mg cs)  : Cal P w K mg base CX0 1 "_law_signed" (sp__law_signed K cs) := by
  refine D.ok sc__law_signed (fun vs H Q E h => ?_) (fun f cdv A outer s H vs Q E hr h => ?_)
  · obtain ⟨n, b, rfl, _⟩ := h; rfl
  · obtain ⟨n, b, rfl, hb1, hb2, q⟩ := h
    refine ⟨_, (pss_cons (ps_set (i := 2) sc__law_signed.nd rfl (by first | exact Or.inl rfl | exact Or.inr rfl) (pe_op op_mod (pe_callTy call_int1 (by rfl) T.m_int (by decide +kernel) (pa_cons (pv 0) pa_nil)) (pe_op op_shl1 pe_int (pv 1))))
      (C8.pss_cut (ps_if (pt_cmpR op_ge (pv 2) (pe_op op_shl1 pe_int (pe_op op_sub (pv 1) pe_int)) (by first | rfl | exact nomark _)) (pss_one (ps_set (i := 2) sc__law_signed.nd rfl (by first | exact Or.inl rfl | exact Or.inr rfl) (pe_op op_sub (pv 2) (pe_op op_shl1 pe_int (pv 1))))) pss_nil)
      (pss_one (ps_ret (pv 2))))), ?_⟩
    have e1 : ((b : Int) - 1).toNat = b - 1 := by omega
    walk_at "go"
    simp only [Int.toNat_natCast, e1]
    refine ⟨fun σ H2 => H2 = H ∧ σ = [some (.int n), some (.int b), some (.int (sgnB n b))], ?_, ?_⟩
    · walk_at "go"
      simp only [Int.toNat_natCast, e1]
      refine ite2 (fun c => ?_) (fun c => ?_)
      · have c' : n % 2 ^ b ≥ 2 ^ (b - 1) := of_decide_eq_true c
        walk_at "go"
        simp only [Int.toNat_natCast]
        rw [show sgnB n b = n % 2 ^ b - 2 ^ b from if_pos c']; rfl
      · have c' : ¬ n % 2 ^ b ≥ 2 ^ (b - 1) := of_decide_eq_false (Bool.eq_false_iff.mpr c)
        rw [show sgnB n b = n % 2 ^ b from if_neg c']
        exact ⟨rfl, rfl⟩
    rintro _ _ ⟨rfl, rfl⟩
    walk_at "go"
    exact q
theorem c__law_unsigned (D : Def K mg "_law_unsigned" s__law_unsigned ["number"]) (T : Tp w K mg cs)  : Cal P w K mg base CX0 1 "_law_unsigned" (sp__law_unsigned K cs) := by
  refine D.ok sc__law_unsigned (fun vs H Q E h => ?_) (fun f cdv A outer s H vs Q E hr h => ?_)
  · obtain ⟨n, rfl, _⟩ := h; rfl
  · obtain ⟨n, rfl, h0, h1, q⟩ := h
    refine ⟨_, (pss_cons (ps_set (i := 1) sc__law_unsigned.nd rfl (by first | exact Or.inl rfl | exact Or.inr rfl) (pe_lst pa_nil))
      (pss_cons (ps_for PassesOwn.never rfl (pi_range1 (by rfl) T.m_range (pa_cons pe_int pa_nil)) (pg_name (i := 2) sc__law_unsigned.nd rfl (by first | exact Or.inl rfl | exact Or.inr rfl)) (pss_cons (ps_set (i := 3) sc__law_unsigned.nd rfl (by first | exact Or.inl rfl | exact Or.inr rfl) (pe_op op_mod (pe_callTy call_int1 (by rfl) T.m_int (by decide +kernel) (pa_cons (pv 0) pa_nil)) pe_int))
      (pss_cons (ps_set (i := 0) sc__law_unsigned.nd rfl (by first | exact Or.inl rfl | exact Or.inr rfl) (pe_op op_fdiv (pv 0) pe_int))
      (pss_cons (ps_if (pt_cmpR op_eq (pv 0) pe_int (by first | rfl | exact nomark _)) (pss_one (ps_ret (pe_op op_cat (pv 1) (pe_lst (pa_cons (pv 3) pa_nil))))) pss_nil)
      (pss_one (ps_expr (pe_bm PySem.F.plainAttrs_list PySem.F.slot_list_append PySem.F.type_list_append mt_append (pv 1) (pa_cons (pe_op op_add pe_int (pv 3)) pa_nil))))))))
      (pss_one (ps_ret (pv 1))))), ?_⟩
    refine ⟨Nat.zero_le _, fun p hp => ?_⟩
    have hlen : (wu n).length ≤ 12 := wr_len false n ⟨h0, h1⟩
    walk_at "go"
    refine for_range (lo := 0) (n := 10) (fun i σ H2 => ∃ (m : Int) (acc : List Int) (o2 o3 : Option V), i ≤ 9 ∧ σ = [some (.int m), some (.ref p), o2, o3] ∧ 0 ≤ m ∧ m < 2 ^ (64 - 7 * i) ∧ acc ++ wu m = wu n ∧ Same H H2 ∧ H2 p = some (.lst (acc.map V.int)))
      ⟨n, [], _, _, by decide, rfl, h0, h1, rfl, Same.new hp, upd_same⟩ ?_ ?_
    · rintro i _ H2 hi ⟨m, acc, o2, o3, h9, rfl, hm, hm2, ha, s2, hl⟩
      walk_at "go"
      refine ite2 (fun c => ?_) (fun c => ?_)
      · have c' : m / 128 = 0 := V.int.inj (of_decide_eq_true c)
        have e1 : wu m = [m] := by rw [wu, dif_pos (by omega)]
        have hla : acc.length < 20 := by rw [← ha, List.length_append, e1, List.length_singleton] at hlen; omega
        walk_at "go"
        try refine And.intro (show 1 ≤ sizeLine by decide) ?_
        intro t ht
        have hl2 : (upd H2 t (.lst [.int (m % 128)])) p = some (.lst (acc.map V.int)) := by rw [upd_ne (ne_of_none hl ht)]; exact hl
        refine ⟨p, t, _, _, rfl, rfl, hl2, upd_same, (by rw [List.length_map]; exact small64 (by show acc.length + 1 ≤ _; omega)), fun r hr => ?_⟩
        refine q r _ (s2.trans ((Same.new ht).trans (Same.new hr))) (s2.free ((Same.new ht).free hr)) ?_
        rw [upd_same, ← ha, e1, List.map_append]
        show some (HO.lst (List.map V.int acc ++ [V.int (m % 128)])) = _
        rw [show m % 128 = m by omega]; rfl
      · have c' : ¬ m / 128 = 0 := fun z => c (decide_eq_true (congrArg V.int z))
        have e1 : wu m = (128 + m % 128) :: wu (m / 128) := by rw [wu, dif_neg (by omega)]
        have hla : acc.length < 20 := by rw [← ha, List.length_append, e1, List.length_cons] at hlen; omega
        have h8 : i ≤ 8 := by
          rcases Nat.lt_or_ge 8 i with h | h
          · have : i = 9 := by omega
            subst this
            simp at hm2
            omega
          · exact h
        have e2 : (2 : Int) ^ (64 - 7 * i) = 2 ^ (64 - 7 * (i + 1)) * 128 := by
          rw [show (128 : Int) = 2 ^ 7 from rfl, ← Int.pow_add]; congr 1; omega
        refine ⟨_, rfl, .inl ⟨rfl, _, SqL.of hl⟩, ?_⟩
        walk_at "go"
        refine ⟨_, _, _, rfl, rfl, hl, (by rw [List.length_map]; exact small64' (by omega)), ?_⟩
        walk_at "go"
        refine ⟨m / 128, acc ++ [128 + m % 128], _, _, by omega, rfl, by omega, by omega, by rw [List.append_assoc]; show acc ++ ((128 + m % 128) :: wu (m / 128)) = _; rw [← e1]; exact ha, fun b o e => ?_, ?_⟩
        · rw [upd_ne (ne_of_none e hp)]; exact s2 _ _ e
        · rw [upd_same, List.map_append]; rfl
    · rintro _ H2 ⟨m, acc, o2, o3, h9, _⟩
      exact absurd h9 (by decide)
theorem c__law_signed_bytes (D : Def K mg "_law_signed_bytes" s__law_signed_bytes ["number"]) (T : Tp w K mg cs)  : Cal P w K mg base CX0 1 "_law_signed_bytes" (sp__law_signed_bytes K cs) := by
  refine D.ok sc__law_signed_bytes (fun vs H Q E h => ?_) (fun f cdv A outer s H vs Q E hr h => ?_)
  · obtain ⟨n, rfl, _⟩ := h; rfl
  · obtain ⟨n, rfl, h0, h1, q⟩ := h
    refine ⟨_, (pss_cons (ps_set (i := 1) sc__law_signed_bytes.nd rfl (by first | exact Or.inl rfl | exact Or.inr rfl) (pe_lst pa_nil))
      (pss_cons (ps_for PassesOwn.never rfl (pi_range1 (by rfl) T.m_range (pa_cons pe_int pa_nil)) (pg_name (i := 2) sc__law_signed_bytes.nd rfl (by first | exact Or.inl rfl | exact Or.inr rfl)) (pss_cons (ps_set (i := 3) sc__law_signed_bytes.nd rfl (by first | exact Or.inl rfl | exact Or.inr rfl) (pe_op op_mod (pe_callTy call_int1 (by rfl) T.m_int (by decide +kernel) (pa_cons (pv 0) pa_nil)) pe_int))
      (pss_cons (ps_set (i := 0) sc__law_signed_bytes.nd rfl (by first | exact Or.inl rfl | exact Or.inr rfl) (pe_op op_fdiv (pv 0) pe_int))
      (C8.pss_cut (ps_if (PW.pt (pw_or (PW.pt (pw_and (pt_cmpR op_eq (pv 0) pe_int (by first | rfl | exact nomark _)) (pw_and1 (pt_cmpR op_lt (pv 3) pe_int (by first | rfl | exact nomark _))))) (pw_or1 (PW.pt (pw_and (pt_cmpR op_eq (pv 0) (pe_un un_neg pe_int) (by first | rfl | exact nomark _)) (pw_and1 (pt_cmpR op_ge (pv 3) pe_int (by first | rfl | exact nomark _)))))))) (pss_one (ps_ret (pe_op op_cat (pv 1) (pe_lst (pa_cons (pv 3) pa_nil))))) pss_nil)
      (pss_one (ps_expr (pe_bm PySem.F.plainAttrs_list PySem.F.slot_list_append PySem.F.type_list_append mt_append (pv 1) (pa_cons (pe_op op_add pe_int (pv 3)) pa_nil))))))))
      (pss_one (ps_ret (pv 1))))), ?_⟩
    refine ⟨Nat.zero_le _, fun p hp => ?_⟩
    have hlen : (ws n).length ≤ 12 := wr_len true n ⟨h0, h1⟩
    walk_at "go"
    refine for_range (lo := 0) (n := 11) (fun i σ H2 => ∃ (m : Int) (acc : List Int) (o2 o3 : Option V), i ≤ 9 ∧ σ = [some (.int m), some (.ref p), o2, o3] ∧ -(2 ^ (63 - 7 * i)) ≤ m ∧ m < 2 ^ (63 - 7 * i) ∧ acc ++ ws m = ws n ∧ Same H H2 ∧ H2 p = some (.lst (acc.map V.int)))
      ⟨n, [], _, _, by decide, rfl, h0, h1, rfl, Same.new hp, upd_same⟩ ?_ ?_
    · rintro i _ H2 hi ⟨m, acc, o2, o3, h9, rfl, hm, hm2, ha, s2, hl⟩
      walk_at "go"
      refine ⟨fun σ H3 => H2 = H3 ∧ ¬ (-64 ≤ m ∧ m ≤ 63) ∧ σ = [some (.int (m / 128)), some (.ref p), some (.int (0 + i)), some (.int (m % 128))], ?_, ?_⟩
      · have fin : (-64 ≤ m ∧ m ≤ 63) → ∀ t, H2 t = none → ∀ r, (upd H2 t (.lst [.int (m % 128)])) r = none → Q (.ref r) (upd (upd H2 t (.lst [.int (m % 128)])) r (.lst (acc.map V.int ++ [.int (m % 128)]))) := fun c t ht r hr => by
          have e1 : ws m = [m % 128] := by rw [ws, dif_pos c]
          refine q r _ (s2.trans ((Same.new ht).trans (Same.new hr))) (s2.free ((Same.new ht).free hr)) ?_
          rw [upd_same, ← ha, e1, List.map_append]; rfl
        have hla : acc.length ≤ 12 := by rw [← ha, List.length_append] at hlen; omega
        have hz : (acc.map V.int).length + ([V.int (m % 128)] : List V).length ≤ sizeLine := by rw [List.length_map]; exact small64 (by show acc.length + 1 ≤ _; omega)
        walk_at "go"
        refine ite2 (fun c => ?_) (fun c => ?_)
        · have c1 : m / 128 = 0 := V.int.inj (of_decide_eq_true c)
          walk_at "go"
          refine ite2 (fun c => ?_) (fun c => ?_)
          · have c2 : m % 128 < 64 := of_decide_eq_true c
            walk_at "go"
            try refine And.intro (show 1 ≤ sizeLine by decide) ?_
            intro t ht
            exact ⟨p, t, _, _, rfl, rfl, by rw [upd_ne (ne_of_none hl ht)]; exact hl, upd_same, hz, fun r hr => fin (by omega) t ht r hr⟩
          · have c2 : ¬ m % 128 < 64 := of_decide_eq_false (Bool.eq_false_iff.mpr c)
            walk_at "go"
            refine ite2 (fun c => ?_) (fun c => ?_)
            · have c3 : m / 128 = -1 := V.int.inj (of_decide_eq_true c)
              omega
            · refine iteF ?_
              exact ⟨rfl, by omega, rfl⟩
        · have c1 : ¬ m / 128 = 0 := fun z => c (decide_eq_true (congrArg V.int z))
          walk_at "go"
          refine ite2 (fun c => ?_) (fun c => ?_)
          · have c2 : m / 128 = -1 := V.int.inj (of_decide_eq_true c)
            walk_at "go"
            refine ite2 (fun c => ?_) (fun c => ?_)
            · have c3 : 64 ≤ m % 128 := of_decide_eq_true c
              walk_at "go"
              try refine And.intro (show 1 ≤ sizeLine by decide) ?_
              intro t ht
              exact ⟨p, t, _, _, rfl, rfl, by rw [upd_ne (ne_of_none hl ht)]; exact hl, upd_same, hz, fun r hr => fin (by omega) t ht r hr⟩
            · have c3 : ¬ 64 ≤ m % 128 := of_decide_eq_false (Bool.eq_false_iff.mpr c)
              exact ⟨rfl, by omega, rfl⟩
          · have c2 : ¬ m / 128 = -1 := fun z => c (decide_eq_true (congrArg V.int z))
            refine iteF ?_
            exact ⟨rfl, by omega, rfl⟩
      rintro _ _ ⟨rfl, c, rfl⟩
      have e1 : ws m = (128 + m % 128) :: ws (m / 128) := by rw [ws, dif_neg c]
      have hla : acc.length < 20 := by rw [← ha, List.length_append, e1, List.length_cons] at hlen; omega
      have h8 : i ≤ 8 := by
        rcases Nat.lt_or_ge 8 i with h | h
        · have : i = 9 := by omega
          subst this
          simp at hm hm2
          omega
        · exact h
      have e2 : (2 : Int) ^ (63 - 7 * i) = 2 ^ (63 - 7 * (i + 1)) * 128 := by
        rw [show (128 : Int) = 2 ^ 7 from rfl, ← Int.pow_add]; congr 1; omega
      refine ⟨_, rfl, .inl ⟨rfl, _, SqL.of hl⟩, ?_⟩
      walk_at "go"
      refine ⟨_, _, _, rfl, rfl, hl, (by rw [List.length_map]; exact small64' (by omega)), ?_⟩
      walk_at "go"
      refine ⟨m / 128, acc ++ [128 + m % 128], _, _, by omega, rfl, by omega, by omega, by rw [List.append_assoc]; show acc ++ ((128 + m % 128) :: ws (m / 128)) = _; rw [← e1]; exact ha, fun b o e => ?_, ?_⟩
      · rw [upd_ne (ne_of_none e hp)]; exact s2 _ _ e
      · rw [upd_same, List.map_append]; rfl
    · rintro _ H2 ⟨m, acc, o2, o3, h9, _⟩
      exact absurd h9 (by decide)
theorem c__law_needed (D : Def K mg "_law_needed" s__law_needed ["number", "with_sign"]) (T : Tp w K mg cs)  : Cal P w K mg base CX0 1 "_law_needed" (sp__law_needed K cs) := by
  refine D.ok sc__law_needed (fun vs H Q E h => ?_) (fun f cdv A outer s H vs Q E hr h => ?_)
  · obtain ⟨n, sg, rfl, _⟩ := h; rfl
  · obtain ⟨n, sg, rfl, hf, q⟩ := h
    refine ⟨_, (pss_cons (ps_set (i := 2) sc__law_needed.nd rfl (by first | exact Or.inl rfl | exact Or.inr rfl) pe_int)
      (pss_cons (ps_for PassesOwn.never rfl (pi_range1 (by rfl) T.m_range (pa_cons pe_int pa_nil)) (pg_name (i := 3) sc__law_needed.nd rfl (by first | exact Or.inl rfl | exact Or.inr rfl)) (pss_cons (ps_if (PW.pt (pw_and (pt_val (pv 1)) (pw_and1 (pt_chain op_le op_lt (pe_un un_neg (pe_op op_shl1 pe_int (pe_op op_sub (pv 2) pe_int))) (pv 0) (pe_op op_shl1 pe_int (pe_op op_sub (pv 2) pe_int)))))) (pss_one (ps_ret (pv 2))) pss_nil)
      (pss_cons (ps_if (PW.pt (pw_and (pt_not (pt_val (pv 1))) (pw_and1 (pt_cmpR op_lt (pv 0) (pe_op op_shl1 pe_int (pv 2)) (by first | rfl | exact nomark _))))) (pss_one (ps_ret (pv 2))) pss_nil)
      (pss_one (ps_set (i := 2) sc__law_needed.nd rfl (by first | exact Or.inl rfl | exact Or.inr rfl) (pe_op op_add (pv 2) pe_int))))))
      (pss_one (ps_ret pe_int)))), ?_⟩
    walk_at "go"
    refine for_range (lo := 0) (n := 64) (fun i σ H2 => H2 = H ∧ ∃ o, σ = [some (.int n), some (.bl sg), some (.int (1 + i : Nat)), o]) ⟨rfl, _, rfl⟩ ?_ ?_
    · rintro i _ _ hi ⟨rfl, o, rfl⟩
      have e1 : (((1 + i : Nat) : Int) - 1).toNat = 1 + i - 1 := by omega
      cases sg with
      | true =>
        walk_at "go"
        simp only [e1]
        refine ite2 (fun c => ?_) (fun c => ?_)
        · have c1 : -(2 ^ (1 + i - 1)) ≤ n := of_decide_eq_true c
          walk_at "go"
          simp only [e1]
          refine ite2 (fun c => ?_) (fun c => ?_)
          · have c2 : n < 2 ^ (1 + i - 1) := of_decide_eq_true c
            walk_at "go"
            exact q (1 + i) (by omega) (by omega) ⟨c1, c2⟩
          · walk_at "go"
            exact ⟨_, congrArg (fun z : Int => [some (V.int n), some (V.bl true), some (V.int z), some (V.int (0 + (i : Int)))]) (show ((1 + i : Nat) : Int) + 1 = ((1 + (i + 1) : Nat) : Int) by omega)⟩
        · walk_at "go"
          exact ⟨_, congrArg (fun z : Int => [some (V.int n), some (V.bl true), some (V.int z), some (V.int (0 + (i : Int)))]) (show ((1 + i : Nat) : Int) + 1 = ((1 + (i + 1) : Nat) : Int) by omega)⟩
      | false =>
        walk_at "go"
        simp only [Int.toNat_natCast]
        refine ite2 (fun c => ?_) (fun c => ?_)
        · have c2 : n < 2 ^ (1 + i) := of_decide_eq_true c
          walk_at "go"
          exact q (1 + i) (by omega) (by omega) ⟨hf.1, c2⟩
        · walk_at "go"
          exact ⟨_, congrArg (fun z : Int => [some (V.int n), some (V.bl false), some (V.int z), some (V.int (0 + (i : Int)))]) (show ((1 + i : Nat) : Int) + 1 = ((1 + (i + 1) : Nat) : Int) by omega)⟩
    · rintro _ _ ⟨rfl, o, rfl⟩
      walk_at "go"
      exact q 64 (by decide) (by decide) hf
theorem c__law_read (D : Def K mg "_law_read" s__law_read ["data", "number", "before", "behind", "with_sign"]) (T : Tp w K mg cs) (c__law_needed : Cal P w K mg base CX0 1 "_law_needed" (sp__law_needed K cs)) (c_read_signed : Cal P w K mg base (L2.CX P w) 5 "read_signed" (sp_read_signed K cs)) (c_read_unsigned : Cal P w K mg base (L2.CX P w) 5 "read_unsigned" (sp_read_unsigned K cs)) (c__law_is_integer : Cal P w K mg base CX0 1 "_law_is_integer" (sp__law_is_integer K cs)) : Cal P w K mg base CX0 6 "_law_read" (sp__law_read K cs) := by
  refine D.ok sc__law_read (fun vs H Q E h => ?_) (fun f cdv A outer s H vs Q E hr h => ?_)
  · obtain ⟨d, b, c, n, sg, pre, post, rfl, _⟩ := h; rfl
  · obtain ⟨d, b, c, n, sg, pre, post, rfl, hd, hb, hc, Bp, Bq, lp, lq, hf, q⟩ := h
    refine ⟨_, (pss_cons (ps_set (i := 5) sc__law_read.nd rfl (by first | exact Or.inl rfl | exact Or.inr rfl) (pe_op op_cat (pe_op op_cat (pe_lc (own := [("byte", 9)]) (g := gName 9) (tt := tYes) (by rfl) sc__law_read.nd (pi_list (pv 2)) (blkOk_by (own := [("byte", 9)]) (N := ["data", "number", "before", "behind", "with_sign", "file", "place", "bits", "told", "byte"]) (sc := defScope s__law_read) (by decide +kernel)) (fun _ _ _ _ _ => (pg_name (i := 9) sc__law_read.nd rfl (by first | exact Or.inl rfl | exact Or.inr rfl))) (fun _ _ _ _ _ => pts_nil) (fun _ _ _ _ _ => (pe_callTy call_int1 (by rfl) T.m_int (by decide +kernel) (pa_cons (pv 9) pa_nil)))) (pv 0)) (pe_lc (own := [("byte", 9)]) (g := gName 9) (tt := tYes) (by rfl) sc__law_read.nd (pi_list (pv 3)) (blkOk_by (own := [("byte", 9)]) (N := ["data", "number", "before", "behind", "with_sign", "file", "place", "bits", "told", "byte"]) (sc := defScope s__law_read) (by decide +kernel)) (fun _ _ _ _ _ => (pg_name (i := 9) sc__law_read.nd rfl (by first | exact Or.inl rfl | exact Or.inr rfl))) (fun _ _ _ _ _ => pts_nil) (fun _ _ _ _ _ => (pe_callTy call_int1 (by rfl) T.m_int (by decide +kernel) (pa_cons (pv 9) pa_nil))))))
      (pss_cons (ps_set (i := 6) sc__law_read.nd rfl (by first | exact Or.inl rfl | exact Or.inr rfl) (pe_callB call_len_seq (by rfl) T.m_len PySem.boot_len (pa_cons (pv 2) pa_nil)))
      (pss_cons (ps_for PassesOwn.never rfl (pi_list (pe_lst (pa_cons pe_int (pa_cons (pe_c c__law_needed hr (by decide) (by rfl) (pa_cons (pv 1) (pa_cons (pv 4) pa_nil))) pa_nil)))) (pg_name (i := 7) sc__law_read.nd rfl (by first | exact Or.inl rfl | exact Or.inr rfl)) (C8.pss_cut (ps_if (pt_val (pv 4)) (pss_one (ps_set (i := 8) sc__law_read.nd rfl (by first | exact Or.inl rfl | exact Or.inr rfl) (pe_cE c_read_signed hr (by decide) passL (by rfl) (pa_cons (pe_callTy call_list_of (by rfl) T.m_list (by decide +kernel) (pa_cons (pv 5) pa_nil)) (pa_cons (pv 6) (pa_cons (pe_callB call_len_seq (by rfl) T.m_len PySem.boot_len (pa_cons (pv 5) pa_nil)) (pa_cons (pv 7) pa_nil))))))) (pss_one (ps_set (i := 8) sc__law_read.nd rfl (by first | exact Or.inl rfl | exact Or.inr rfl) (pe_cE c_read_unsigned hr (by decide) passL (by rfl) (pa_cons (pe_callTy call_list_of (by rfl) T.m_list (by decide +kernel) (pa_cons (pv 5) pa_nil)) (pa_cons (pv 6) (pa_cons (pe_op op_add (pv 6) (pe_callB call_len_seq (by rfl) T.m_len PySem.boot_len (pa_cons (pv 0) pa_nil))) (pa_cons (pv 7) pa_nil))))))))
      (pss_cons (ps_if (PW.pt (pw_or (pt_not (pt_val (pe_callB call_isi (by rfl) T.m_isinstance (by decide +kernel) (pa_cons (pv 8) (pa_cons (pe_bltn (v := .ty "tuple") (u := .type "tuple") (by rfl) T.m_tuple (by decide +kernel) rfl) pa_nil))))) (pw_or1 (pt_cmpR op_ne (pe_callB call_len_seq (by rfl) T.m_len PySem.boot_len (pa_cons (pv 8) pa_nil)) pe_int (by first | rfl | exact nomark _))))) (pss_one (ps_ret pe_bl)) pss_nil)
      (pss_cons (ps_if (PW.pt (pw_or (pt_not (pt_val (pe_c c__law_is_integer hr (by decide) (by rfl) (pa_cons (pe_ix ix_tup (pv 8) pe_int (fun _ _ => rfl)) pa_nil)))) (pw_or1 (pt_not (pt_val (pe_c c__law_is_integer hr (by decide) (by rfl) (pa_cons (pe_ix ix_tup (pv 8) pe_int (fun _ _ => rfl)) pa_nil))))))) (pss_one (ps_ret pe_bl)) pss_nil)
      (pss_one (ps_if (PW.pt (pw_or (pt_cmpR op_ne (pe_ix ix_tup (pv 8) pe_int (fun _ _ => rfl)) (pv 1) (by first | rfl | exact nomark _)) (pw_or1 (pt_cmpR op_ne (pe_ix ix_tup (pv 8) pe_int (fun _ _ => rfl)) (pe_op op_add (pv 6) (pe_callB call_len_seq (by rfl) T.m_len PySem.boot_len (pa_cons (pv 0) pa_nil))) (by first | rfl | exact nomark _))))) (pss_one (ps_ret pe_bl)) pss_nil))))))
      (pss_one (ps_ret pe_bl))))), ?_⟩
    walk_at "go"
    refine ⟨⟨_, hb⟩, fun D1 hD1 => lc_map (j := 9) (f := id) hD1 hb (by rw [List.length_map]; omega) (fun x H2 Q2 hx s2 q2 => ?_) (fun H1 s1 hl1 => ?_)⟩
    · obtain ⟨m, _, rfl⟩ := List.mem_map.mp hx
      walk_at "go"
      exact q2 _ (Same.refl _)
    rw [List.map_id] at hl1
    have hw := wr_len sg n hf
    walk_at "go"
    refine ⟨D1, d, _, _, rfl, rfl, hl1, s1 _ _ hd, (by rw [List.length_map, List.length_map]; exact small64 (by omega)), fun p1 hp1 => ?_⟩
    rw [← List.map_append]
    have s2 := s1.trans (Same.new (o := .lst ((pre ++ wr sg n).map V.int)) hp1)
    walk_at "go"
    refine ⟨⟨_, s2.seq hc⟩, fun D2 hD2 => lc_map (j := 9) (f := id) hD2 (s2.seq hc) (by rw [List.length_map]; omega) (fun x H2 Q2 hx s2 q2 => ?_) (fun H3 s3 hl3 => ?_)⟩
    · obtain ⟨m, _, rfl⟩ := List.mem_map.mp hx
      walk_at "go"
      exact q2 _ (Same.refl _)
    rw [List.map_id] at hl3
    refine ⟨p1, D2, _, _, rfl, rfl, s3 _ _ upd_same, hl3, (by rw [List.length_map, List.length_map, List.length_append]; exact small64 (by omega)), fun p2 hp2 => ?_⟩
    rw [← List.map_append]
    have s4 := s2.trans (s3.trans (Same.new (o := .lst ((pre ++ wr sg n ++ post).map V.int)) hp2))
    have hfile : (upd H3 p2 (.lst ((pre ++ wr sg n ++ post).map V.int))) p2 = some (.lst ((pre ++ wr sg n ++ post).map V.int)) := upd_same
    have hb4 := s4.seq hb
    generalize upd H3 p2 (.lst ((pre ++ wr sg n ++ post).map V.int)) = H4 at s4 hfile hb4 ⊢
    walk_at "go"
    simp only [List.length_map]
    intro nb hn1 hn2 hnf
    try refine And.intro (show 2 ≤ sizeLine by decide) ?_
    intro p3 hp3
    have hl5 : (upd H4 p3 (.lst [.int 64, .int nb])) p3 = some (.lst [.int 64, .int nb]) := upd_same
    have s5 := s4.trans (Same.new (o := .lst [.int 64, .int nb]) hp3)
    have s45 := Same.new (o := .lst [.int 64, .int nb]) hp3
    have hfile5 := s45 _ _ hfile
    generalize upd H4 p3 (.lst [.int 64, .int nb]) = H5 at s5 s45 hl5 hfile5 ⊢
    refine ⟨_, rfl, ⟨_, SqL.of hl5⟩, for_list (K := K) (a := p3) (xs := [.int 64, .int nb]) (D := { nx := tRet (tC (V.bl true)) { nx := fun x H' => Q V.non H', rt := Q }, rt := Q }) (fun i σ H6 => Same H5 H6 ∧ ∃ o7 o8, σ = [some (.ref d), some (.int n), some (.ref b), some (.ref c), some (.bl sg), some (.ref p2), some (.int pre.length), o7, o8, none])
      ⟨Same.refl _, _, _, rfl⟩ (fun i σ H6 _ h => h.1.seq (SqL.of hl5)) ?_ ?_⟩
    · rintro i x _ H6 hi ⟨s6, o7, o8, rfl⟩
      obtain ⟨bb, rfl, hb1, hb2, hbf⟩ : ∃ bb : Nat, x = .int bb ∧ 1 ≤ bb ∧ bb ≤ 64 ∧ Fit sg n bb := by
        rcases List.mem_cons.mp (List.mem_of_getElem? hi) with rfl | hi
        · exact ⟨64, rfl, by decide, by decide, hf⟩
        · rw [List.mem_singleton] at hi
          exact ⟨nb, hi, hn1, hn2, hnf⟩
      have hB : Bys (pre ++ wr sg n ++ post) := fun x hx => by
        rcases List.mem_append.mp hx with hx | hx
        · rcases List.mem_append.mp hx with hx | hx
          · exact Bp x hx
          · exact wr_bytes sg n hf x hx
        · exact Bq x hx
      have hfile6 := s6 _ _ hfile5
      have hd6 := s6 _ _ (s5 _ _ hd)
      refine ⟨fun σ H7 => Same H6 H7 ∧ ∃ t, H7 t = some (.tup [.int n, .int (pre.length + (wr sg n).length : Nat)]) ∧ σ = [some (.ref d), some (.int n), some (.ref b), some (.ref c), some (.bl sg), some (.ref p2), some (.int pre.length), some (.int bb), some (.ref t), none], ?_, ?_⟩
      · cases sg with
        | true =>
          walk_at "go"
          refine ⟨p2, _, rfl, .inl (SqL.of hfile6), fun p7 hp7 => ?_⟩
          have s7 := Same.new (o := .lst ((pre ++ wr true n ++ post).map V.int)) hp7
          have hfile7 := s7 _ _ hfile6
          have hS7 : SqL K (upd H6 p7 (.lst ((pre ++ wr true n ++ post).map V.int))) p7 ((pre ++ wr true n ++ post).map V.int) := SqL.new
          generalize upd H6 p7 (.lst ((pre ++ wr true n ++ post).map V.int)) = H7 at s7 hfile7 hS7 ⊢
          have hSf : SqL K H7 p2 ((pre ++ wr true n ++ post).map V.int) := SqL.of hfile7
          walk_at "go"
          have e := rdS_ws (pre := pre) (post := post) (n := n) (b := bb) (e := (pre ++ wr true n ++ post).length) hbf hb1 (by rw [List.length_append, List.length_append]; show pre.length + (ws n).length ≤ _ + (ws n).length + _; omega)
          refine ⟨p7, pre ++ wr true n ++ post, pre.length, (pre ++ wr true n ++ post).length, bb, by simp only [List.length_map]; rfl, hS7, hB, Nat.le_refl _, hb1, hb2, fun r hr => ?_, fun r hr => ?_⟩
          · have : (Except.ok (n, pre.length + (ws n).length) : ER (Int × Nat)) = .error r := e.symm.trans hr
            cases this
          · have : (Except.ok (n, pre.length + (ws n).length) : ER (Int × Nat)) = .ok r := e.symm.trans hr
            cases this
            exact fun t Hf s8 ht => ⟨s7.trans s8, t, ht, rfl⟩
        | false =>
          walk_at "go"
          refine ⟨p2, _, rfl, .inl (SqL.of hfile6), fun p7 hp7 => ?_⟩
          have s7 := Same.new (o := .lst ((pre ++ wr false n ++ post).map V.int)) hp7
          have hd7 := s7 _ _ hd6
          have hS7 : SqL K (upd H6 p7 (.lst ((pre ++ wr false n ++ post).map V.int))) p7 ((pre ++ wr false n ++ post).map V.int) := SqL.new
          generalize upd H6 p7 (.lst ((pre ++ wr false n ++ post).map V.int)) = H7 at s7 hd7 hS7 ⊢
          have hSd : SqL K H7 d ((wr false n).map V.int) := SqL.of hd7
          walk_at "go"
          have e := rdU_wu (pre := pre) (post := post) (n := n) (b := bb) (e := pre.length + (wu n).length) hbf hb1 (Nat.le_refl _)
          refine ⟨p7, pre ++ wr false n ++ post, pre.length, pre.length + (wu n).length, bb, by simp only [List.length_map]; rfl, hS7, hB, by rw [List.length_append, List.length_append]; show _ ≤ _ + (wu n).length + _; omega, hb1, hb2, fun r hr => ?_, fun r hr => ?_⟩
          · have : (Except.ok (n, pre.length + (wu n).length) : ER (Int × Nat)) = .error r := e.symm.trans hr
            cases this
          · have : (Except.ok (n, pre.length + (wu n).length) : ER (Int × Nat)) = .ok r := e.symm.trans hr
            cases this
            exact fun t Hf s8 ht => ⟨s7.trans s8, t, ht, rfl⟩
      · rintro _ H7 ⟨s7, t, ht, rfl⟩
        have hT : SqT K H7 t [.int n, .int (pre.length + (wr sg n).length : Nat)] := SqT.of ht
        have hSd : SqL K H7 d ((wr sg n).map V.int) := SqL.of (s7 _ _ hd6)
        walk_at "go"
        simp only [List.length_map]
        refine iteNS (congrArg V.int (by omega)) ?_
        exact ⟨s6.trans s7, _, _, rfl⟩
    · rintro _ H6 ⟨s6, o7, o8, rfl⟩
      exact q _ (s5.trans s6)
theorem c_law {f : Addr} {fd : FuncData} (D : L2.Fun K "law" "law" s_law f fd) (T : Tp w K mg cs) (c_write_unsigned : Cal P w K mg base CX0 1 "write_unsigned" (sp_write_unsigned K cs)) (c__law_signed : Cal P w K mg base CX0 1 "_law_signed" (sp__law_signed K cs)) (c_write_signed : Cal P w K mg base CX0 1 "write_signed" (sp_write_signed K cs)) (c__law_read : Cal P w K mg base CX0 6 "_law_read" (sp__law_read K cs)) (c__law_is_bytes : Cal P w K mg base CX0 1 "_law_is_bytes" (sp__law_is_bytes K cs)) (c__law_unsigned : Cal P w K mg base CX0 1 "_law_unsigned" (sp__law_unsigned K cs)) (c__law_signed_bytes : Cal P w K mg base CX0 1 "_law_signed_bytes" (sp__law_signed_bytes K cs)) : FnOk P w K mg base CX0 7 f fd ["script"] (sp_law K cs) := by
  refine D.ok sc_law (fun vs H Q E h => ?_) (fun cdv A outer s H vs Q E hr h => ?_)
  · obtain ⟨a, ns, rfl, _⟩ := h; rfl
  · obtain ⟨a, ns, rfl, hS, hlen, q⟩ := h
    refine ⟨_, (pss_cons (ps_setLc (i := 1) (own := [("cell", 3)]) (g := gName 3) (tt := tYes) (by rfl) sc_law.nd rfl rfl (sw_true rfl rfl rfl (by decide +kernel)) (pi_list (pe_slice sl_list (pv 0) po_none (po_some pe_int))) (blkOk_by (own := [("cell", 3)]) (N := ["script", "cells", "k", "cell", "power", "number", "before", "behind", "low", "data", "value"]) (sc := defScope s_law) (by decide +kernel)) (fun _ _ _ _ _ => (pg_name (i := 3) sc_law.nd rfl (by first | exact Or.inl rfl | exact Or.inr rfl))) (fun _ _ _ _ _ => pts_nil) (fun _ _ _ _ _ => (pe_callTy call_int1 (by rfl) T.m_int (by decide +kernel) (pa_cons (pv 3) pa_nil))))
      (C8.pss_cut (ps_if (pt_cmpR op_eq (pe_callB call_len_seq (by rfl) T.m_len PySem.boot_len (pa_cons (pv 1) pa_nil)) pe_int (by first | rfl | exact nomark _)) (pss_one (ps_set (i := 1) sc_law.nd rfl (by first | exact Or.inl rfl | exact Or.inr rfl) (pe_lst (pa_cons pe_int pa_nil)))) pss_nil)
      (pss_cons (ps_for PassesOwn.never rfl (pi_range1 (by rfl) T.m_range (pa_cons (pe_callB call_len_seq (by rfl) T.m_len PySem.boot_len (pa_cons (pv 1) pa_nil)) pa_nil)) (pg_name (i := 2) sc_law.nd rfl (by first | exact Or.inl rfl | exact Or.inr rfl)) (pss_cons (ps_set (i := 3) sc_law.nd rfl (by first | exact Or.inl rfl | exact Or.inr rfl) (pe_ix ix_list (pv 1) (pv 2) (fun _ _ => rfl)))
      (pss_cons (ps_set (i := 4) sc_law.nd rfl (by first | exact Or.inl rfl | exact Or.inr rfl) (pe_op op_shl1 pe_int (pe_op op_add (pe_op op_mul pe_int (pe_op op_mod (pe_callTy call_int1 (by rfl) T.m_int (by decide +kernel) (pa_cons (pe_op op_fdiv (pv 3) pe_int) pa_nil)) pe_int)) (pe_op op_mul pe_int (pe_op op_mod (pe_callTy call_int1 (by rfl) T.m_int (by decide +kernel) (pa_cons (pe_op op_fdiv (pv 3) pe_int) pa_nil)) pe_int)))))
      (pss_cons (ps_set (i := 5) sc_law.nd rfl (by first | exact Or.inl rfl | exact Or.inr rfl) (pe_op op_fdiv (pv 3) pe_int))
      (C8.pss_cut (ps_if (pt_cmpR op_eq (pe_op op_mod (pe_callTy call_int1 (by rfl) T.m_int (by decide +kernel) (pa_cons (pv 3) pa_nil)) pe_int) pe_int (by first | rfl | exact nomark _)) (pss_one (ps_set (i := 5) sc_law.nd rfl (by first | exact Or.inl rfl | exact Or.inr rfl) (pe_op op_add (pe_op op_sub (pv 4) pe_int) (pe_op op_mod (pe_callTy call_int1 (by rfl) T.m_int (by decide +kernel) (pa_cons (pe_op op_fdiv (pv 3) pe_int) pa_nil)) pe_int)))) pss_nil)
      (C8.pss_cut (ps_if (pt_cmpR op_eq (pe_op op_mod (pe_callTy call_int1 (by rfl) T.m_int (by decide +kernel) (pa_cons (pv 3) pa_nil)) pe_int) pe_int (by first | rfl | exact nomark _)) (pss_one (ps_set (i := 5) sc_law.nd rfl (by first | exact Or.inl rfl | exact Or.inr rfl) (pe_op op_add (pe_op op_sub (pe_un un_neg (pv 4)) pe_int) (pe_op op_mod (pe_callTy call_int1 (by rfl) T.m_int (by decide +kernel) (pa_cons (pe_op op_fdiv (pv 3) pe_int) pa_nil)) pe_int)))) pss_nil)
      (pss_cons (ps_set (i := 6) sc_law.nd rfl (by first | exact Or.inl rfl | exact Or.inr rfl) (pe_slice sl_list (pe_lst (pa_cons pe_int (pa_cons pe_int (pa_cons pe_int pa_nil)))) po_none (po_some (pe_op op_mod (pe_callTy call_int1 (by rfl) T.m_int (by decide +kernel) (pa_cons (pv 3) pa_nil)) pe_int))))
      (pss_cons (ps_set (i := 7) sc_law.nd rfl (by first | exact Or.inl rfl | exact Or.inr rfl) (pe_slice sl_list (pe_lst (pa_cons pe_int (pa_cons pe_int (pa_cons pe_int pa_nil)))) po_none (po_some (pe_op op_mod (pe_callTy call_int1 (by rfl) T.m_int (by decide +kernel) (pa_cons (pv 3) pa_nil)) pe_int))))
      (pss_cons (ps_set (i := 8) sc_law.nd rfl (by first | exact Or.inl rfl | exact Or.inr rfl) (pe_op op_mod (pe_callTy call_int1 (by rfl) T.m_int (by decide +kernel) (pa_cons (pv 5) pa_nil)) (pe_op op_shl1 pe_int pe_int)))
      (pss_cons (ps_set (i := 9) sc_law.nd rfl (by first | exact Or.inl rfl | exact Or.inr rfl) (pe_c c_write_unsigned hr (by decide) (by rfl) (pa_cons (pv 8) pa_nil)))
      (pss_cons (ps_if (PW.pt (pw_or (pt_not (pt_val (pe_c c__law_is_bytes hr (by decide) (by rfl) (pa_cons (pv 9) pa_nil)))) (pw_or1 (pt_cmpR (op_neD (hu64 hr)) (pv 9) (pe_c c__law_unsigned hr (by decide) (by rfl) (pa_cons (pv 8) pa_nil)) (by first | rfl | exact nomark _))))) (pss_one (ps_ret pe_bl)) pss_nil)
      (pss_cons (ps_if (pt_not (pt_val (pe_c c__law_read hr (by decide) (by rfl) (pa_cons (pv 9) (pa_cons (pv 8) (pa_cons (pv 6) (pa_cons (pv 7) (pa_cons pe_bl pa_nil)))))))) (pss_one (ps_ret pe_bl)) pss_nil)
      (pss_cons (ps_set (i := 10) sc_law.nd rfl (by first | exact Or.inl rfl | exact Or.inr rfl) (pe_c c__law_signed hr (by decide) (by rfl) (pa_cons (pv 5) (pa_cons pe_int pa_nil))))
      (pss_cons (ps_set (i := 9) sc_law.nd rfl (by first | exact Or.inl rfl | exact Or.inr rfl) (pe_c c_write_signed hr (by decide) (by rfl) (pa_cons (pv 10) pa_nil)))
      (pss_cons (ps_if (PW.pt (pw_or (pt_not (pt_val (pe_c c__law_is_bytes hr (by decide) (by rfl) (pa_cons (pv 9) pa_nil)))) (pw_or1 (pt_cmpR (op_neD (hu64 hr)) (pv 9) (pe_c c__law_signed_bytes hr (by decide) (by rfl) (pa_cons (pv 10) pa_nil)) (by first | rfl | exact nomark _))))) (pss_one (ps_ret pe_bl)) pss_nil)
      (pss_one (ps_if (pt_not (pt_val (pe_c c__law_read hr (by decide) (by rfl) (pa_cons (pv 9) (pa_cons (pv 10) (pa_cons (pv 6) (pa_cons (pv 7) (pa_cons pe_bl pa_nil)))))))) (pss_one (ps_ret pe_bl)) pss_nil)))))))))))))))))
      (pss_one (ps_ret pe_bl))))), ?_⟩
    walk_at "go"
    refine ⟨a, _, rfl, hS, fun p hp => ?_⟩
    rw [show ((63 : Int)) = ((63 : Nat) : Int) from rfl, cut_to]
    refine ⟨p, rfl, ⟨_, SqL.new⟩, fun D hD => lc_map (j := 3) (f := id) hD SqL.new (by rw [List.length_take]; omega) (fun x H2 Q2 hx s2 q2 => ?_) (fun H2 s2 hD2 => ?_)⟩
    · obtain ⟨m, _, rfl⟩ := List.mem_map.mp (List.mem_of_mem_take hx)
      walk_at "go"
      exact q2 _ (Same.refl _)
    rw [List.map_id, ← List.map_take] at hD2
    have hl : (ns.take 63).length ≤ 63 := by rw [List.length_take]; omega
    refine ⟨fun σ H3 => ∃ (c : Addr) (cs : List Int), σ = [some (.ref a), some (.ref c), none, none, none, none, none, none, none, none, none] ∧ SqL K H3 c (cs.map V.int) ∧ cs.length ≤ 63, ?_, ?_⟩
    · refine ⟨_, rfl, D, _, rfl, .inl (SqL.of hD2), ?_⟩
      walk_at "go"
      refine ite2 (fun c => ?_) (fun c => ?_)
      · try refine And.intro (show 1 ≤ sizeLine by decide) ?_
        intro p2 hp2
        exact ⟨p2, [0], rfl, SqL.new, by decide⟩
      · exact ⟨D, ns.take 63, rfl, SqL.of hD2, hl⟩
    rintro _ H3 ⟨c, cs, rfl, hc, h63⟩
    refine ⟨_, rfl, c, _, rfl, .inl hc, ?_⟩
    rw [List.length_map]
    refine ⟨_, rfl, by omega, by omega, ?_⟩
    refine for_range (lo := 0) (n := cs.length) (D := { nx := tRet (tC (V.bl true)) { nx := fun x H' => Q V.non H', rt := Q }, rt := Q }) (fun i σ H4 => SqL K H4 c (cs.map V.int) ∧ ∃ o2 o3 o4 o5 o6 o7 o8 o9 o10, σ = [some (.ref a), some (.ref c), o2, o3, o4, o5, o6, o7, o8, o9, o10]) ⟨hc, _, _, _, _, _, _, _, _, _, rfl⟩ ?_ ?_
    · rintro i σ H4 hi ⟨hc, o2, o3, o4, o5, o6, o7, o8, o9, o10, rfl⟩
      rw [Int.zero_add]
      walk_at "go"
      generalize cs.getD i 0 = v
      obtain ⟨pw, epw⟩ : ∃ pw : Int, (2 : Int) ^ (7 * (v / 8 % 9) + 6 * (v / 4 % 2)).toNat = pw := ⟨_, rfl⟩
      simp only [epw]
      refine ⟨fun σ H5 => H4 = H5 ∧ ∃ m, σ = [some (.ref a), some (.ref c), some (.int i), some (.int v), some (.int pw), some (.int m), o6, o7, o8, o9, o10], ?_, ?_⟩
      · walk_at "go"
        refine ite2 (fun c => ?_) (fun c => ?_)
        · walk_at "go"
          exact ⟨_, rfl⟩
        · exact ⟨rfl, _, rfl⟩
      rintro _ _ ⟨rfl, m0, rfl⟩
      refine ⟨fun σ H5 => H4 = H5 ∧ ∃ m, σ = [some (.ref a), some (.ref c), some (.int i), some (.int v), some (.int pw), some (.int m), o6, o7, o8, o9, o10], ?_, ?_⟩
      · walk_at "go"
        refine ite2 (fun c => ?_) (fun c => ?_)
        · walk_at "go"
          exact ⟨_, rfl⟩
        · exact ⟨rfl, _, rfl⟩
      rintro _ _ ⟨rfl, m, rfl⟩
      walk_at "go"
      try refine And.intro (show 3 ≤ sizeLine by decide) ?_
      intro p1 hp1
      have s1 := Same.new (o := .lst [.int 255, .int 128, .int 7]) hp1
      obtain ⟨k1, ek1, hk1⟩ : ∃ k1 : Nat, v % 3 = (k1 : Int) ∧ k1 ≤ 3 := ⟨(v % 3).toNat, by omega, by omega⟩
      walk_at "go"
      simp only [ek1]
      refine ⟨p1, [255, 128, 7].map V.int, rfl, SqL.new, fun p2 hp2 => ?_⟩
      rw [cut_to, ← List.map_take]
      have s12 := s1.trans (Same.new (o := .lst (([255, 128, 7].take k1).map V.int)) hp2)
      have hb : (upd (upd H4 p1 (.lst [.int 255, .int 128, .int 7])) p2 (.lst (([255, 128, 7].take k1).map V.int))) p2 = some (.lst (([255, 128, 7].take k1).map V.int)) := upd_same
      generalize upd (upd H4 p1 (.lst [.int 255, .int 128, .int 7])) p2 (.lst (([255, 128, 7].take k1).map V.int)) = H5 at s12 hb ⊢
      try refine And.intro (show 3 ≤ sizeLine by decide) ?_
      intro p3 hp3
      have s3 := Same.new (o := .lst [.int 0, .int 255, .int 64]) hp3
      obtain ⟨k2, ek2, hk2⟩ : ∃ k2 : Nat, v % 4 = (k2 : Int) ∧ k2 ≤ 4 := ⟨(v % 4).toNat, by omega, by omega⟩
      walk_at "go"
      simp only [ek2]
      refine ⟨p3, [0, 255, 64].map V.int, rfl, SqL.new, fun p4 hp4 => ?_⟩
      rw [cut_to, ← List.map_take]
      have s34 := s12.trans (s3.trans (Same.new (o := .lst (([0, 255, 64].take k2).map V.int)) hp4))
      have hb5 := (s3.trans (Same.new (o := .lst (([0, 255, 64].take k2).map V.int)) hp4)) _ _ hb
      have hq : (upd (upd H5 p3 (.lst [.int 0, .int 255, .int 64])) p4 (.lst (([0, 255, 64].take k2).map V.int))) p4 = some (.lst (([0, 255, 64].take k2).map V.int)) := upd_same
      generalize upd (upd H5 p3 (.lst [.int 0, .int 255, .int 64])) p4 (.lst (([0, 255, 64].take k2).map V.int)) = H6 at s34 hb5 hq ⊢
      have hc6 := s34.seq hc
      have Bp : Bys ([255, 128, 7].take k1) := fun x hx => by have := List.mem_of_mem_take hx; simp at this; omega
      have Bq : Bys ([0, 255, 64].take k2) := fun x hx => by have := List.mem_of_mem_take hx; simp at this; omega
      have lp : ([255, 128, 7].take k1 : List Int).length ≤ 10 := by rw [List.length_take]; show min _ 3 ≤ 10; omega
      have lq : ([0, 255, 64].take k2 : List Int).length ≤ 10 := by rw [List.length_take]; show min _ 3 ≤ 10; omega
      generalize ([255, 128, 7].take k1 : List Int) = pre at hb5 Bp lp
      generalize ([0, 255, 64].take k2 : List Int) = post at hq Bq lq
      -- low, without a sign
      walk_at "go"
      simp only [show (2 : Int) ^ (64 : Int).toNat = 2 ^ 64 from rfl]
      have f1 : Fit false (m % 2 ^ 64) 64 := ⟨Int.emod_nonneg _ (by decide), Int.emod_lt_of_pos _ (by decide)⟩
      generalize m % 2 ^ 64 = low at f1 ⊢
      have f1a : 0 ≤ low := f1.1
      have f1b : low < 18446744073709551616 := f1.2
      walk_at "go"
      intro d1 H7 s7 hd0 hd1
      have hc7 := s7.seq hc6
      have hw1 : Bys (wu low) := wr_bytes false low f1
      have hw2 : (wu low).length ≤ 12 := wr_len false low f1
      walk_at "go"
      refine ⟨d1, wu low, rfl, hd1, hw1, by omega, ?_⟩
      walk_at "go"
      intro d2 H8 s8 he0 hd2
      refine ⟨_, _, dp_ints (SqL.of (s8 _ _ hd1)), dp_ints (SqL.of hd2), shaped_ints _, shaped_ints _, ?_⟩
      simp only [eqv_ints]
      walk_at "go"
      have s68 := s7.trans s8
      refine ⟨d1, p2, p4, low, false, pre, post, rfl, s8 _ _ hd1, SqL.of (s68 _ _ hb5), SqL.of (s68 _ _ hq), Bp, Bq, lp, lq, f1, fun H9 s9 => ?_⟩
      have s69 := s68.trans s9
      -- value, with its sign
      walk_at "go"
      have f2 := sgnB_fit m
      generalize sgnB m 64 = val at f2 ⊢
      have f2a : -(9223372036854775808) ≤ val := f2.1
      have f2b : val < 9223372036854775808 := f2.2
      walk_at "go"
      intro d3 H10 s10 he3 hd3
      have hw3 : Bys (ws val) := wr_bytes true val f2
      have hw4 : (ws val).length ≤ 12 := wr_len true val f2
      walk_at "go"
      refine ⟨d3, ws val, rfl, hd3, hw3, by omega, ?_⟩
      walk_at "go"
      intro d4 H11 s11 he4 hd4
      refine ⟨_, _, dp_ints (SqL.of (s11 _ _ hd3)), dp_ints (SqL.of hd4), shaped_ints _, shaped_ints _, ?_⟩
      simp only [eqv_ints]
      walk_at "go"
      have s6b := s69.trans (s10.trans s11)
      refine ⟨d3, p2, p4, val, true, pre, post, rfl, s11 _ _ hd3, SqL.of (s6b _ _ hb5), SqL.of (s6b _ _ hq), Bp, Bq, lp, lq, f2, fun H12 s12' => ?_⟩
      walk_at "go"
      exact ⟨(s6b.trans s12').seq hc6, _, _, _, _, _, _, _, _, _, rfl⟩
    · rintro σ H4 ⟨hc, o2, o3, o4, o5, o6, o7, o8, o9, o10, rfl⟩
      exact q _
end
theorem all_mk {l : PySem.W.OpenLaw} {w : World} {K : PySem.W.Frag} {h : Heap} {mg : Str → Option Value} {fa f0 f1 f2 f3 f4 f5 f6 f7 f8 f9 f10 f11 f12 f13 : Addr} (X : K.In h) (G : h.Ns mainGlobals mg) (hfa : mg "law" = some (.ref fa))
    {od0 an0 od1 an1 od2 an2 od3 an3 od4 an4 od5 an5 od6 an6 od7 an7 od8 an8 od9 an9 od10 an10 od11 an11 od12 an12 od13 an13 : Option Addr} {sl0 sl1 sl2 sl3 sl4 sl5 sl6 sl7 sl8 sl9 sl10 sl11 sl12 sl13 : Array (Option Value)} {oc0 kV0 dc0 pm0 cd0 ct0 oc1 kV1 dc1 pm1 cd1 ct1 oc2 kV2 dc2 pm2 cd2 ct2 oc3 kV3 dc3 pm3 cd3 ct3 oc4 kV4 dc4 pm4 cd4 ct4 oc5 kV5 dc5 pm5 cd5 ct5 oc6 kV6 dc6 pm6 cd6 ct6 oc7 kV7 dc7 pm7 cd7 ct7 oc8 kV8 dc8 pm8 cd8 ct8 oc9 kV9 dc9 pm9 cd9 ct9 oc10 kV10 dc10 pm10 cd10 ct10 oc11 kV11 dc11 pm11 cd11 ct11 oc12 kV12 dc12 pm12 cd12 ct12 oc13 kV13 dc13 pm13 cd13 ct13 : Value}
    (a0 : PySem.W.nsIn K mainGlobals "write_unsigned" = some (some (.ref f0))) (l0 : K.lookup f0 = some ⟨oc0, od0, .func (PySem.W.fnOf "write_unsigned" "write_unsigned" (defArgs s_write_unsigned) (defBody s_write_unsigned) (defScope s_write_unsigned) .none kV0 dc0 pm0 an0 cd0 ct0), sl0⟩) (c0 : PySem.W.codeIn K cd0 "write_unsigned" = true) (k0 : PySem.W.keepIn K (.ref f0) = true)
    (a1 : PySem.W.nsIn K mainGlobals "write_signed" = some (some (.ref f1))) (l1 : K.lookup f1 = some ⟨oc1, od1, .func (PySem.W.fnOf "write_signed" "write_signed" (defArgs s_write_signed) (defBody s_write_signed) (defScope s_write_signed) .none kV1 dc1 pm1 an1 cd1 ct1), sl1⟩) (c1 : PySem.W.codeIn K cd1 "write_signed" = true) (k1 : PySem.W.keepIn K (.ref f1) = true)
    (a2 : PySem.W.nsIn K mainGlobals "byte_at" = some (some (.ref f2))) (l2 : K.lookup f2 = some ⟨oc2, od2, .func (PySem.W.fnOf "byte_at" "byte_at" (defArgs s_byte_at) (defBody s_byte_at) (defScope s_byte_at) .none kV2 dc2 pm2 an2 cd2 ct2), sl2⟩) (c2 : PySem.W.codeIn K cd2 "byte_at" = true) (k2 : PySem.W.keepIn K (.ref f2) = true)
    (a3 : PySem.W.nsIn K mainGlobals "read_groups" = some (some (.ref f3))) (l3 : K.lookup f3 = some ⟨oc3, od3, .func (PySem.W.fnOf "read_groups" "read_groups" (defArgs s_read_groups) (defBody s_read_groups) (defScope s_read_groups) .none kV3 dc3 pm3 an3 cd3 ct3), sl3⟩) (c3 : PySem.W.codeIn K cd3 "read_groups" = true) (k3 : PySem.W.keepIn K (.ref f3) = true)
    (a4 : PySem.W.nsIn K mainGlobals "read_unsigned" = some (some (.ref f4))) (l4 : K.lookup f4 = some ⟨oc4, od4, .func (PySem.W.fnOf "read_unsigned" "read_unsigned" (defArgs s_read_unsigned) (defBody s_read_unsigned) (defScope s_read_unsigned) .none kV4 dc4 pm4 an4 cd4 ct4), sl4⟩) (c4 : PySem.W.codeIn K cd4 "read_unsigned" = true) (k4 : PySem.W.keepIn K (.ref f4) = true)
    (a5 : PySem.W.nsIn K mainGlobals "read_signed" = some (some (.ref f5))) (l5 : K.lookup f5 = some ⟨oc5, od5, .func (PySem.W.fnOf "read_signed" "read_signed" (defArgs s_read_signed) (defBody s_read_signed) (defScope s_read_signed) .none kV5 dc5 pm5 an5 cd5 ct5), sl5⟩) (c5 : PySem.W.codeIn K cd5 "read_signed" = true) (k5 : PySem.W.keepIn K (.ref f5) = true)
    (a6 : PySem.W.nsIn K mainGlobals "_law_is_integer" = some (some (.ref f6))) (l6 : K.lookup f6 = some ⟨oc6, od6, .func (PySem.W.fnOf "_law_is_integer" "_law_is_integer" (defArgs s__law_is_integer) (defBody s__law_is_integer) (defScope s__law_is_integer) .none kV6 dc6 pm6 an6 cd6 ct6), sl6⟩) (c6 : PySem.W.codeIn K cd6 "_law_is_integer" = true) (k6 : PySem.W.keepIn K (.ref f6) = true)
    (a7 : PySem.W.nsIn K mainGlobals "_law_signed" = some (some (.ref f7))) (l7 : K.lookup f7 = some ⟨oc7, od7, .func (PySem.W.fnOf "_law_signed" "_law_signed" (defArgs s__law_signed) (defBody s__law_signed) (defScope s__law_signed) .none kV7 dc7 pm7 an7 cd7 ct7), sl7⟩) (c7 : PySem.W.codeIn K cd7 "_law_signed" = true) (k7 : PySem.W.keepIn K (.ref f7) = true)
    (a8 : PySem.W.nsIn K mainGlobals "_law_is_bytes" = some (some (.ref f8))) (l8 : K.lookup f8 = some ⟨oc8, od8, .func (PySem.W.fnOf "_law_is_bytes" "_law_is_bytes" (defArgs s__law_is_bytes) (defBody s__law_is_bytes) (defScope s__law_is_bytes) .none kV8 dc8 pm8 an8 cd8 ct8), sl8⟩) (c8 : PySem.W.codeIn K cd8 "_law_is_bytes" = true) (k8 : PySem.W.keepIn K (.ref f8) = true)
    (a9 : PySem.W.nsIn K mainGlobals "_law_unsigned" = some (some (.ref f9))) (l9 : K.lookup f9 = some ⟨oc9, od9, .func (PySem.W.fnOf "_law_unsigned" "_law_unsigned" (defArgs s__law_unsigned) (defBody s__law_unsigned) (defScope s__law_unsigned) .none kV9 dc9 pm9 an9 cd9 ct9), sl9⟩) (c9 : PySem.W.codeIn K cd9 "_law_unsigned" = true) (k9 : PySem.W.keepIn K (.ref f9) = true)
    (a10 : PySem.W.nsIn K mainGlobals "_law_signed_bytes" = some (some (.ref f10))) (l10 : K.lookup f10 = some ⟨oc10, od10, .func (PySem.W.fnOf "_law_signed_bytes" "_law_signed_bytes" (defArgs s__law_signed_bytes) (defBody s__law_signed_bytes) (defScope s__law_signed_bytes) .none kV10 dc10 pm10 an10 cd10 ct10), sl10⟩) (c10 : PySem.W.codeIn K cd10 "_law_signed_bytes" = true) (k10 : PySem.W.keepIn K (.ref f10) = true)
    (a11 : PySem.W.nsIn K mainGlobals "_law_needed" = some (some (.ref f11))) (l11 : K.lookup f11 = some ⟨oc11, od11, .func (PySem.W.fnOf "_law_needed" "_law_needed" (defArgs s__law_needed) (defBody s__law_needed) (defScope s__law_needed) .none kV11 dc11 pm11 an11 cd11 ct11), sl11⟩) (c11 : PySem.W.codeIn K cd11 "_law_needed" = true) (k11 : PySem.W.keepIn K (.ref f11) = true)
    (a12 : PySem.W.nsIn K mainGlobals "_law_read" = some (some (.ref f12))) (l12 : K.lookup f12 = some ⟨oc12, od12, .func (PySem.W.fnOf "_law_read" "_law_read" (defArgs s__law_read) (defBody s__law_read) (defScope s__law_read) .none kV12 dc12 pm12 an12 cd12 ct12), sl12⟩) (c12 : PySem.W.codeIn K cd12 "_law_read" = true) (k12 : PySem.W.keepIn K (.ref f12) = true)
    (a13 : PySem.W.nsIn K mainGlobals "law" = some (some (.ref f13))) (l13 : K.lookup f13 = some ⟨oc13, od13, .func (PySem.W.fnOf "law" "law" (defArgs s_law) (defBody s_law) (defScope s_law) .none kV13 dc13 pm13 an13 cd13 ct13), sl13⟩) (c13 : PySem.W.codeIn K cd13 "law" = true) (k13 : PySem.W.keepIn K (.ref f13) = true)
    (z_bool : PySem.W.nsIn K mainGlobals "bool" = some none)
    (z_int : PySem.W.nsIn K mainGlobals "int" = some none)
    (z_isinstance : PySem.W.nsIn K mainGlobals "isinstance" = some none)
    (z_len : PySem.W.nsIn K mainGlobals "len" = some none)
    (z_list : PySem.W.nsIn K mainGlobals "list" = some none)
    (z_range : PySem.W.nsIn K mainGlobals "range" = some none)
    (z_tuple : PySem.W.nsIn K mainGlobals "tuple" = some none)
    {cC_HostError cC_DecodeError cI_DecodeError : Addr}
    (sp0 : PySem.W.specialIn K (.builtin "object.__class__") "__get__" = some (some (.builtin "getset_descriptor.__get__"))) (tk0 : PySem.W.takesIn K (.builtin "object.__class__") = some true)
    (aC_HostError : PySem.W.nsIn K mainGlobals "HostError" = some (some (.ref cC_HostError)))
    (aC_DecodeError : PySem.W.nsIn K mainGlobals "DecodeError" = some (some (.ref cC_DecodeError)))
    (ex_HostError : PySem.W.subIn K (.ref cC_HostError) (.type "BaseException") = some true)
    (ty_HostError : PySem.W.typeIn K (.ref cC_HostError) = some (.type "type"))
    (hd_HostError : PySem.W.hasDictIn K cC_HostError = true)
    (ex_DecodeError : PySem.W.subIn K (.ref cC_DecodeError) (.type "BaseException") = some true)
    (ty_DecodeError : PySem.W.typeIn K (.ref cC_DecodeError) = some (.type "type"))
    (hd_DecodeError : PySem.W.hasDictIn K cC_DecodeError = true)
    {nm_DecodeError qn_DecodeError : Str} {N_DecodeError : Addr} {bs_DecodeError : List Value} {sn_DecodeError : List Str} {sub_DecodeError : List Value} {ab_DecodeError : Bool} {col_DecodeError : Option Bool} {dd_DecodeError : Option Addr} {m0_DecodeError m1_DecodeError m2_DecodeError m3_DecodeError m5_DecodeError : Option Value}
    (xl_DecodeError : K.lookup cC_DecodeError = some (excClassObj nm_DecodeError qn_DecodeError cC_DecodeError N_DecodeError bs_DecodeError [.ref cC_HostError, .type "ValueError", .type "Exception", .type "BaseException", .type "object"] true sn_DecodeError sub_DecodeError ab_DecodeError col_DecodeError dd_DecodeError m0_DecodeError m1_DecodeError m2_DecodeError m3_DecodeError m5_DecodeError "ValueError.__new__"))
    (sa_DecodeError : PySem.W.findIn K (.ref cC_DecodeError) "__setattr__" = some (some (.builtin "object.__setattr__")))
    (ga_DecodeError : PySem.W.findIn K (.ref cC_DecodeError) "__getattribute__" = some (some (.builtin "BaseException.__getattribute__")))
    (gg_DecodeError : PySem.W.findIn K (.ref cC_DecodeError) "__getattr__" = some none)
    (ca_DecodeError : PySem.W.findIn K (.ref cC_DecodeError) "__class__" = some (some (.builtin "object.__class__")))
    (kp_DecodeError : PySem.W.keepIn K (.ref cC_DecodeError) = true)
    (mr_DecodeError : PySem.W.mroIn K cC_DecodeError (.type "object") = some true)
    {odI_DecodeError anI_DecodeError : Option Addr} {slI_DecodeError : Array (Option Value)} {ocI_DecodeError kVI_DecodeError dcI_DecodeError pmI_DecodeError cdI_DecodeError ctI_DecodeError : Value}
    (aI_DecodeError : PySem.W.findIn K (.ref cC_DecodeError) "__init__" = some (some (.ref cI_DecodeError))) (tI_DecodeError : PySem.W.typeIn K (.ref cI_DecodeError) = some (.type "function"))
    (lI_DecodeError : K.lookup cI_DecodeError = some ⟨ocI_DecodeError, odI_DecodeError, .func (PySem.W.fnOf "__init__" "DecodeError.__init__" (defArgs i_DecodeError) (defBody i_DecodeError) (defScope i_DecodeError) .none kVI_DecodeError dcI_DecodeError pmI_DecodeError anI_DecodeError cdI_DecodeError ctI_DecodeError), slI_DecodeError⟩) (cdo_DecodeError : PySem.W.codeIn K cdI_DecodeError "DecodeError.__init__" = true) (kI_DecodeError : PySem.W.keepIn K (.ref cI_DecodeError) = true)
    (no_DecodeError_reason : PySem.W.findIn K (.ref cC_DecodeError) "reason" = some none)
    (no_DecodeError_place : PySem.W.findIn K (.ref cC_DecodeError) "place" = some none)
    (sub_DecodeError_HostError : PySem.W.subIn K (.ref cC_DecodeError) (.ref cC_HostError) = some true) (ne_DecodeError_HostError : (Value.ref cC_DecodeError == Value.ref cC_HostError) = false)
    (sub_DecodeError_DecodeError : PySem.W.subIn K (.ref cC_DecodeError) (.ref cC_DecodeError) = some true)
    (sub_DecodeError_VE : PySem.W.subIn K (.ref cC_DecodeError) (.type "ValueError") = some true)
    : ∃ fd : FuncData, (∀ (s : Shared) (v : Value), BindsTo s fd ⟨[v], []⟩ [("script", v)]) ∧ ∀ base : Heap, K.In base → base.Ns mainGlobals mg → FnOk l.prog w K mg base CX0 7 fa fd ["script"] (sp_lawK K) := by
  have e := hfa.symm.trans (PySem.W.mg_of X G a13)
  cases e
  have FI_DecodeError := fun_mk (st := i_DecodeError) lI_DecodeError cdo_DecodeError kI_DecodeError
  have T : Tp w K mg (⟨cC_HostError, cC_DecodeError, cI_DecodeError, (PySem.W.fnOf "__init__" "DecodeError.__init__" (defArgs i_DecodeError) (defBody i_DecodeError) (defScope i_DecodeError) .none kVI_DecodeError dcI_DecodeError pmI_DecodeError anI_DecodeError cdI_DecodeError ctI_DecodeError)⟩ : Cs) := ⟨PySem.W.mg_none_of X G z_bool, PySem.W.mg_none_of X G z_int, PySem.W.mg_none_of X G z_isinstance, PySem.W.mg_none_of X G z_len, PySem.W.mg_none_of X G z_list, PySem.W.mg_none_of X G z_range, PySem.W.mg_none_of X G z_tuple, PySem.W.mg_of X G aC_HostError, PySem.W.mg_of X G aC_DecodeError, ⟨PySem.W.mg_of X G aC_DecodeError, ⟨⟨nm_DecodeError, qn_DecodeError, N_DecodeError, bs_DecodeError, _, sn_DecodeError, sub_DecodeError, ab_DecodeError, col_DecodeError, dd_DecodeError, m0_DecodeError, m1_DecodeError, m2_DecodeError, m3_DecodeError, m5_DecodeError, xl_DecodeError, by rfl⟩, sa_DecodeError, ex_DecodeError, ty_DecodeError, kp_DecodeError⟩, ga_DecodeError, gg_DecodeError, hd_DecodeError, ca_DecodeError, sp0, tk0, mr_DecodeError⟩, aI_DecodeError, tI_DecodeError, FI_DecodeError, FI_DecodeError.binds (ps := ["self", "reason", "place"]) fun _ _ _ _ _ _ us hl => match us, hl with | [_, _, _], _ => rfl, no_DecodeError_reason, no_DecodeError_place, kit_two ne_DecodeError_HostError hd_HostError ty_HostError sub_DecodeError_HostError, PySem.W.exm_ref ex_HostError hd_HostError ty_HostError sub_DecodeError_HostError, kit_self, PySem.W.exm_ref ex_DecodeError hd_DecodeError ty_DecodeError sub_DecodeError_DecodeError, kit_ve sub_DecodeError_VE⟩
  have F0 := fun_mk (st := s_write_unsigned) l0 c0 k0
  have D_write_unsigned : Def K mg "write_unsigned" s_write_unsigned ["number"] := ⟨_, _, F0, PySem.W.mg_of X G a0, F0.binds (ps := ["number"]) fun _ _ _ _ _ _ us hl => match us, hl with | [_], _ => rfl⟩
  have F1 := fun_mk (st := s_write_signed) l1 c1 k1
  have D_write_signed : Def K mg "write_signed" s_write_signed ["number"] := ⟨_, _, F1, PySem.W.mg_of X G a1, F1.binds (ps := ["number"]) fun _ _ _ _ _ _ us hl => match us, hl with | [_], _ => rfl⟩
  have F2 := fun_mk (st := s_byte_at) l2 c2 k2
  have D_byte_at : Def K mg "byte_at" s_byte_at ["data", "place", "end"] := ⟨_, _, F2, PySem.W.mg_of X G a2, F2.binds (ps := ["data", "place", "end"]) fun _ _ _ _ _ _ us hl => match us, hl with | [_, _, _], _ => rfl⟩
  have F3 := fun_mk (st := s_read_groups) l3 c3 k3
  have D_read_groups : Def K mg "read_groups" s_read_groups ["data", "place", "end", "bits"] := ⟨_, _, F3, PySem.W.mg_of X G a3, F3.binds (ps := ["data", "place", "end", "bits"]) fun _ _ _ _ _ _ us hl => match us, hl with | [_, _, _, _], _ => rfl⟩
  have F4 := fun_mk (st := s_read_unsigned) l4 c4 k4
  have D_read_unsigned : Def K mg "read_unsigned" s_read_unsigned ["data", "place", "end", "bits"] := ⟨_, _, F4, PySem.W.mg_of X G a4, F4.binds (ps := ["data", "place", "end", "bits"]) fun _ _ _ _ _ _ us hl => match us, hl with | [_, _, _, _], _ => rfl⟩
  have F5 := fun_mk (st := s_read_signed) l5 c5 k5
  have D_read_signed : Def K mg "read_signed" s_read_signed ["data", "place", "end", "bits"] := ⟨_, _, F5, PySem.W.mg_of X G a5, F5.binds (ps := ["data", "place", "end", "bits"]) fun _ _ _ _ _ _ us hl => match us, hl with | [_, _, _, _], _ => rfl⟩
  have F6 := fun_mk (st := s__law_is_integer) l6 c6 k6
  have D__law_is_integer : Def K mg "_law_is_integer" s__law_is_integer ["actual"] := ⟨_, _, F6, PySem.W.mg_of X G a6, F6.binds (ps := ["actual"]) fun _ _ _ _ _ _ us hl => match us, hl with | [_], _ => rfl⟩
  have F7 := fun_mk (st := s__law_signed) l7 c7 k7
  have D__law_signed : Def K mg "_law_signed" s__law_signed ["number", "bits"] := ⟨_, _, F7, PySem.W.mg_of X G a7, F7.binds (ps := ["number", "bits"]) fun _ _ _ _ _ _ us hl => match us, hl with | [_, _], _ => rfl⟩
  have F8 := fun_mk (st := s__law_is_bytes) l8 c8 k8
  have D__law_is_bytes : Def K mg "_law_is_bytes" s__law_is_bytes ["data"] := ⟨_, _, F8, PySem.W.mg_of X G a8, F8.binds (ps := ["data"]) fun _ _ _ _ _ _ us hl => match us, hl with | [_], _ => rfl⟩
  have F9 := fun_mk (st := s__law_unsigned) l9 c9 k9
  have D__law_unsigned : Def K mg "_law_unsigned" s__law_unsigned ["number"] := ⟨_, _, F9, PySem.W.mg_of X G a9, F9.binds (ps := ["number"]) fun _ _ _ _ _ _ us hl => match us, hl with | [_], _ => rfl⟩
  have F10 := fun_mk (st := s__law_signed_bytes) l10 c10 k10
  have D__law_signed_bytes : Def K mg "_law_signed_bytes" s__law_signed_bytes ["number"] := ⟨_, _, F10, PySem.W.mg_of X G a10, F10.binds (ps := ["number"]) fun _ _ _ _ _ _ us hl => match us, hl with | [_], _ => rfl⟩
  have F11 := fun_mk (st := s__law_needed) l11 c11 k11
  have D__law_needed : Def K mg "_law_needed" s__law_needed ["number", "with_sign"] := ⟨_, _, F11, PySem.W.mg_of X G a11, F11.binds (ps := ["number", "with_sign"]) fun _ _ _ _ _ _ us hl => match us, hl with | [_, _], _ => rfl⟩
  have F12 := fun_mk (st := s__law_read) l12 c12 k12
  have D__law_read : Def K mg "_law_read" s__law_read ["data", "number", "before", "behind", "with_sign"] := ⟨_, _, F12, PySem.W.mg_of X G a12, F12.binds (ps := ["data", "number", "before", "behind", "with_sign"]) fun _ _ _ _ _ _ us hl => match us, hl with | [_, _, _, _, _], _ => rfl⟩
  have F13 := fun_mk (st := s_law) l13 c13 k13
  refine ⟨PySem.W.fnOf "law" "law" (defArgs s_law) (defBody s_law) (defScope s_law) .none kV13 dc13 pm13 an13 cd13 ct13, fun s v => .of_eq rfl, fun base _ _ => ?_⟩
  have C_write_unsigned : Cal l.prog w K mg base CX0 1 "write_unsigned" (sp_write_unsigned K (⟨cC_HostError, cC_DecodeError, cI_DecodeError, (PySem.W.fnOf "__init__" "DecodeError.__init__" (defArgs i_DecodeError) (defBody i_DecodeError) (defScope i_DecodeError) .none kVI_DecodeError dcI_DecodeError pmI_DecodeError anI_DecodeError cdI_DecodeError ctI_DecodeError)⟩ : Cs)) := c_write_unsigned D_write_unsigned T 
  have C__law_signed : Cal l.prog w K mg base CX0 1 "_law_signed" (sp__law_signed K (⟨cC_HostError, cC_DecodeError, cI_DecodeError, (PySem.W.fnOf "__init__" "DecodeError.__init__" (defArgs i_DecodeError) (defBody i_DecodeError) (defScope i_DecodeError) .none kVI_DecodeError dcI_DecodeError pmI_DecodeError anI_DecodeError cdI_DecodeError ctI_DecodeError)⟩ : Cs)) := c__law_signed D__law_signed T 
  have C_write_signed : Cal l.prog w K mg base CX0 1 "write_signed" (sp_write_signed K (⟨cC_HostError, cC_DecodeError, cI_DecodeError, (PySem.W.fnOf "__init__" "DecodeError.__init__" (defArgs i_DecodeError) (defBody i_DecodeError) (defScope i_DecodeError) .none kVI_DecodeError dcI_DecodeError pmI_DecodeError anI_DecodeError cdI_DecodeError ctI_DecodeError)⟩ : Cs)) := c_write_signed D_write_signed T 
  have C__law_needed : Cal l.prog w K mg base CX0 1 "_law_needed" (sp__law_needed K (⟨cC_HostError, cC_DecodeError, cI_DecodeError, (PySem.W.fnOf "__init__" "DecodeError.__init__" (defArgs i_DecodeError) (defBody i_DecodeError) (defScope i_DecodeError) .none kVI_DecodeError dcI_DecodeError pmI_DecodeError anI_DecodeError cdI_DecodeError ctI_DecodeError)⟩ : Cs)) := c__law_needed D__law_needed T 
  have C_byte_at : Cal l.prog w K mg base (L2.CX l.prog w) 3 "byte_at" (sp_byte_at K (⟨cC_HostError, cC_DecodeError, cI_DecodeError, (PySem.W.fnOf "__init__" "DecodeError.__init__" (defArgs i_DecodeError) (defBody i_DecodeError) (defScope i_DecodeError) .none kVI_DecodeError dcI_DecodeError pmI_DecodeError anI_DecodeError cdI_DecodeError ctI_DecodeError)⟩ : Cs)) := c_byte_at D_byte_at T 
  have C_read_groups : Cal l.prog w K mg base (L2.CX l.prog w) 4 "read_groups" (sp_read_groups K (⟨cC_HostError, cC_DecodeError, cI_DecodeError, (PySem.W.fnOf "__init__" "DecodeError.__init__" (defArgs i_DecodeError) (defBody i_DecodeError) (defScope i_DecodeError) .none kVI_DecodeError dcI_DecodeError pmI_DecodeError anI_DecodeError cdI_DecodeError ctI_DecodeError)⟩ : Cs)) := c_read_groups D_read_groups T C_byte_at
  have C_read_signed : Cal l.prog w K mg base (L2.CX l.prog w) 5 "read_signed" (sp_read_signed K (⟨cC_HostError, cC_DecodeError, cI_DecodeError, (PySem.W.fnOf "__init__" "DecodeError.__init__" (defArgs i_DecodeError) (defBody i_DecodeError) (defScope i_DecodeError) .none kVI_DecodeError dcI_DecodeError pmI_DecodeError anI_DecodeError cdI_DecodeError ctI_DecodeError)⟩ : Cs)) := c_read_signed D_read_signed T C_read_groups
  have C_read_unsigned : Cal l.prog w K mg base (L2.CX l.prog w) 5 "read_unsigned" (sp_read_unsigned K (⟨cC_HostError, cC_DecodeError, cI_DecodeError, (PySem.W.fnOf "__init__" "DecodeError.__init__" (defArgs i_DecodeError) (defBody i_DecodeError) (defScope i_DecodeError) .none kVI_DecodeError dcI_DecodeError pmI_DecodeError anI_DecodeError cdI_DecodeError ctI_DecodeError)⟩ : Cs)) := c_read_unsigned D_read_unsigned T C_read_groups
  have C__law_is_integer : Cal l.prog w K mg base CX0 1 "_law_is_integer" (sp__law_is_integer K (⟨cC_HostError, cC_DecodeError, cI_DecodeError, (PySem.W.fnOf "__init__" "DecodeError.__init__" (defArgs i_DecodeError) (defBody i_DecodeError) (defScope i_DecodeError) .none kVI_DecodeError dcI_DecodeError pmI_DecodeError anI_DecodeError cdI_DecodeError ctI_DecodeError)⟩ : Cs)) := c__law_is_integer D__law_is_integer T 
  have C__law_read : Cal l.prog w K mg base CX0 6 "_law_read" (sp__law_read K (⟨cC_HostError, cC_DecodeError, cI_DecodeError, (PySem.W.fnOf "__init__" "DecodeError.__init__" (defArgs i_DecodeError) (defBody i_DecodeError) (defScope i_DecodeError) .none kVI_DecodeError dcI_DecodeError pmI_DecodeError anI_DecodeError cdI_DecodeError ctI_DecodeError)⟩ : Cs)) := c__law_read D__law_read T C__law_needed C_read_signed C_read_unsigned C__law_is_integer
  have C__law_is_bytes : Cal l.prog w K mg base CX0 1 "_law_is_bytes" (sp__law_is_bytes K (⟨cC_HostError, cC_DecodeError, cI_DecodeError, (PySem.W.fnOf "__init__" "DecodeError.__init__" (defArgs i_DecodeError) (defBody i_DecodeError) (defScope i_DecodeError) .none kVI_DecodeError dcI_DecodeError pmI_DecodeError anI_DecodeError cdI_DecodeError ctI_DecodeError)⟩ : Cs)) := c__law_is_bytes D__law_is_bytes T 
  have C__law_unsigned : Cal l.prog w K mg base CX0 1 "_law_unsigned" (sp__law_unsigned K (⟨cC_HostError, cC_DecodeError, cI_DecodeError, (PySem.W.fnOf "__init__" "DecodeError.__init__" (defArgs i_DecodeError) (defBody i_DecodeError) (defScope i_DecodeError) .none kVI_DecodeError dcI_DecodeError pmI_DecodeError anI_DecodeError cdI_DecodeError ctI_DecodeError)⟩ : Cs)) := c__law_unsigned D__law_unsigned T 
  have C__law_signed_bytes : Cal l.prog w K mg base CX0 1 "_law_signed_bytes" (sp__law_signed_bytes K (⟨cC_HostError, cC_DecodeError, cI_DecodeError, (PySem.W.fnOf "__init__" "DecodeError.__init__" (defArgs i_DecodeError) (defBody i_DecodeError) (defScope i_DecodeError) .none kVI_DecodeError dcI_DecodeError pmI_DecodeError anI_DecodeError cdI_DecodeError ctI_DecodeError)⟩ : Cs)) := c__law_signed_bytes D__law_signed_bytes T 
  exact c_law F13 T C_write_unsigned C__law_signed C_write_signed C__law_read C__law_is_bytes C__law_unsigned C__law_signed_bytes
theorem walk {l : PySem.W.OpenLaw} {q : Program} {loose : List Str} {XP : (Str → Option Value) → Heap → Prop} {YP : World → Heap → Prop} {d : DefRec} {K : Params → PySem.W.Frag} (hn : l.most = some 63) (hdf : d.params.defaults = [])
    (hY : ∀ (w : World) (h : Heap), YP w h → (K w.params).In h)
    (F : ∀ (w : World) (mg : Str → Option Value) (fa : Addr) (h : Heap), (K w.params).In h → h.Ns mainGlobals mg → mg d.name = some (.ref fa) →
      ∃ fd : FuncData, (∀ (s : Shared) (u : Value), BindsTo s fd ⟨[u], []⟩ [("script", u)]) ∧ ∀ base : Heap, (K w.params).In base → base.Ns mainGlobals mg → FnOk l.prog w (K w.params) mg base CX0 7 fa fd ["script"] (sp_lawK (K w.params))) :
    PySem.W.WalkO q loose XP YP l.row.toRowW d [] (fun f vs => PySem.call f vs) :=
  L2.walk_of (n := 63) (k := 7) (x := "script") (CX := fun _ => CX0) (sp := fun w => sp_lawK (K w.params)) hn (by decide) hdf ⟨rfl, by decide, by decide⟩ hY F (fun _ _ a ns hl _ hS => ⟨a, ns, rfl, hS, hl, fun _ => rfl⟩) fun _ _ _ _ _ z => z
end V
open PySem PySem.W PyProof.Rows
set_option maxRecDepth 100000 in
set_option maxHeartbeats 0 in
theorem PySem.Challenge.cw_wasmhost_k10_numbers_written_holds : PySem.Challenge.rw_wasmhost_k10_numbers_written.Holds := by
  w_on; o_law; k_head; (case hw => w_witness2)
  k_fill
  refine V.walk (l := PySem.Challenge.rw_wasmhost_k10_numbers_written) rfl rfl (fun w h Y => PySem.W.kIn_of Y) ?F
  case F =>
    intro w mg fa h KX G hmg
    refine' V.all_mk KX G hmg ?a0 ?l0 ?c0 ?k0 ?a1 ?l1 ?c1 ?k1 ?a2 ?l2 ?c2 ?k2 ?a3 ?l3 ?c3 ?k3 ?a4 ?l4 ?c4 ?k4 ?a5 ?l5 ?c5 ?k5 ?a6 ?l6 ?c6 ?k6 ?a7 ?l7 ?c7 ?k7 ?a8 ?l8 ?c8 ?k8 ?a9 ?l9 ?c9 ?k9 ?a10 ?l10 ?c10 ?k10 ?a11 ?l11 ?c11 ?k11 ?a12 ?l12 ?c12 ?k12 ?a13 ?l13 ?c13 ?k13 ?z_bool ?z_int ?z_isinstance ?z_len ?z_list ?z_range ?z_tuple ?sp0 ?tk0 ?aC_HostError ?aC_DecodeError ?ex_HostError ?ty_HostError ?hd_HostError ?ex_DecodeError ?ty_DecodeError ?hd_DecodeError ?xl_DecodeError ?sa_DecodeError ?ga_DecodeError ?gg_DecodeError ?ca_DecodeError ?kp_DecodeError ?mr_DecodeError ?aI_DecodeError ?tI_DecodeError ?lI_DecodeError ?cdo_DecodeError ?kI_DecodeError ?no_DecodeError_reason ?no_DecodeError_place ?sub_DecodeError_HostError ?ne_DecodeError_HostError ?sub_DecodeError_DecodeError ?sub_DecodeError_VE
    (case a0 => k_is)
    (case l0 => k_is)
    (case c0 => k_is)
    (case k0 => k_is)
    (case a1 => k_is)
    (case l1 => k_is)
    (case c1 => k_is)
    (case k1 => k_is)
    (case a2 => k_is)
    (case l2 => k_is)
    (case c2 => k_is)
    (case k2 => k_is)
    (case a3 => k_is)
    (case l3 => k_is)
    (case c3 => k_is)
    (case k3 => k_is)
    (case a4 => k_is)
    (case l4 => k_is)
    (case c4 => k_is)
    (case k4 => k_is)
    (case a5 => k_is)
    (case l5 => k_is)
    (case c5 => k_is)
    (case k5 => k_is)
    (case a6 => k_is)
    (case l6 => k_is)
    (case c6 => k_is)
    (case k6 => k_is)
    (case a7 => k_is)
    (case l7 => k_is)
    (case c7 => k_is)
    (case k7 => k_is)
    (case a8 => k_is)
    (case l8 => k_is)
    (case c8 => k_is)
    (case k8 => k_is)
    (case a9 => k_is)
    (case l9 => k_is)
    (case c9 => k_is)
    (case k9 => k_is)
    (case a10 => k_is)
    (case l10 => k_is)
    (case c10 => k_is)
    (case k10 => k_is)
    (case a11 => k_is)
    (case l11 => k_is)
    (case c11 => k_is)
    (case k11 => k_is)
    (case a12 => k_is)
    (case l12 => k_is)
    (case c12 => k_is)
    (case k12 => k_is)
    (case a13 => k_is)
    (case l13 => k_is)
    (case c13 => k_is)
    (case k13 => k_is)
    (case z_bool => k_is)
    (case z_int => k_is)
    (case z_isinstance => k_is)
    (case z_len => k_is)
    (case z_list => k_is)
    (case z_range => k_is)
    (case z_tuple => k_is)
    (case sp0 => k_is)
    (case tk0 => k_is)
    (case aC_HostError => k_is)
    (case aC_DecodeError => k_is)
    (case ex_HostError => k_is)
    (case ty_HostError => k_is)
    (case hd_HostError => k_is)
    (case ex_DecodeError => k_is)
    (case ty_DecodeError => k_is)
    (case hd_DecodeError => k_is)
    (case xl_DecodeError => k_is)
    (case sa_DecodeError => k_is)
    (case ga_DecodeError => k_is)
    (case gg_DecodeError => k_is)
    (case ca_DecodeError => k_is)
    (case kp_DecodeError => k_is)
    (case mr_DecodeError => k_is)
    (case aI_DecodeError => k_is)
    (case tI_DecodeError => k_is)
    (case lI_DecodeError => k_is)
    (case cdo_DecodeError => k_is)
    (case kI_DecodeError => k_is)
    (case no_DecodeError_reason => k_is)
    (case no_DecodeError_place => k_is)
    (case sub_DecodeError_HostError => first | rfl | k_is)
    (case ne_DecodeError_HostError => decide)
    (case sub_DecodeError_DecodeError => first | rfl | k_is)
    (case sub_DecodeError_VE => first | rfl | k_is)
#print axioms PySem.Challenge.cw_wasmhost_k10_numbers_written_holds


