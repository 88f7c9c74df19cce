import PyProof.Rows.All
import Wide.All
import OpenK.AllK
import Wide.FinOn
import KE.KBits
import KE.BitLaws
import HandS.ForMost
import HandS.ForExc
import HandS.IsInst
import HandS.Wide
import HandS.WideBits
import HandS.WideMore
import HandS.Flow
import HandS.ExcInit
import HandS.Codes
import HandS.ExcField
import HandS.ExcIs
import KE.KExcIs
import KE.KIsAll
import PySem.Challenge.RW_wasmhost_k11_numbers_read
set_option Elab.async false
set_option linter.all false
set_option maxRecDepth 100000
set_option maxHeartbeats 4000000
namespace V
open PySem PySem.Spec PyProof.Rows L2
/-! ### a def that may be called by its name -/
structure Cal (P : Program) (w : World) (K : PySem.W.Frag) (mg : Str → Option Value) (base : Heap) (C : CXT) (k : Nat) (x : Str) (sp : Sp) : Prop where
  ex : ∃ (f : Addr) (fd : FuncData) (ps : List Str), FnOk P w K mg base C k f fd ps sp ∧ mg x = some (.ref f) ∧ PySem.W.keepIn K (.ref f) = true ∧ Binds K fd ps []
section
variable {P : Program} {w : World} {K : PySem.W.Frag} {mg : Str → Option Value} {base : Heap} {k : Nat} {x : Str} {sp sp' : Sp} {C : CXT}
theorem Cal.mono (c : Cal P w K mg base C k x sp) {j : Nat} (h : k ≤ j) : Cal P w K mg base C j x sp := by
  obtain ⟨f, fd, ps, F, m, kp, b⟩ := c.ex
  exact ⟨f, fd, ps, F.mono h, m, kp, b⟩
theorem Cal.imp (c : Cal P w K mg base C k x sp) (h : ∀ vs H Q E, sp' vs H Q E → sp vs H Q E) : Cal P w K mg base C k x sp' := by
  obtain ⟨f, fd, ps, F, m, kp, b⟩ := c.ex
  exact ⟨f, fd, ps, F.imp h, m, kp, b⟩
/-- a def as the top leaves it -/
structure Def (K : PySem.W.Frag) (mg : Str → Option Value) (x : Str) (st : Stmt) (ps : List Str) : Prop where
  ex : ∃ (f : Addr) (fd : FuncData), L2.Fun K x x st f fd ∧ mg x = some (.ref f) ∧ Binds K fd ps []
theorem Def.ok {st : Stmt} {N ps : List Str} (D : Def K mg x st ps) (S : FnScope N ps (defScope st)) (len : ∀ vs H Q E, sp vs H Q E → vs.length = ps.length)
    (hbody : ∀ (f : Addr) (cdv : Value) (A : Around) (outer : List Env) (s : Shared) (H : Hp) (vs : List V) (Q : VK) (E : XK), Room k (A.deeper (envOfC x (defScope st) s.heap.objs.size f cdv)) → sp vs H Q E →
      ∃ t, PSs (cxOf CX0 P w K mg base N x (defScope st) f cdv A outer s H E).nox (defBody st) t ∧ t { nx := fun _ H' => Q .non H', rt := Q } (start N vs) H) : Cal P w K mg base CX0 (k + 1) x sp := by
  obtain ⟨f, fd, F, m, b⟩ := D.ex
  exact ⟨f, fd, ps, F.ok S len (hbody f), m, F.kp, b⟩
theorem Def.okX {st : Stmt} {N ps : List Str} (D : Def K mg x st ps) (S : FnScope N ps (defScope st)) (len : ∀ vs H Q E, sp vs H Q E → vs.length = ps.length)
    (hbody : ∀ (f : Addr) (cdv : Value) (A : Around) (outer : List Env) (s : Shared) (H : Hp) (vs : List V) (Q : VK) (E : XK), Room k (A.deeper (envOfC x (defScope st) s.heap.objs.size f cdv)) → sp vs H Q E →
      ∃ t, PSs (cxOf (L2.CX P w) P w K mg base N x (defScope st) f cdv A outer s H E) (defBody st) t ∧ t { nx := fun _ H' => Q .non H', rt := Q } (start N vs) H) : Cal P w K mg base (L2.CX P w) (k + 1) x sp := by
  obtain ⟨f, fd, F, m, b⟩ := D.ex
  exact ⟨f, fd, ps, F.okX S len (hbody f), m, F.kp, b⟩
end
section
variable {X : Cx} {k j : Nat} {x : Str} {sp : Sp} {p pos : Pos} {e : Expr} {es : List Expr} {t : TA} {C : CXT} {E : XK}
theorem pe_cE (c : Cal X.prog X.w X.K X.mg X.base C k x sp) (hr : Room j X.A) (hk : k ≤ j) (hx : Passes C X E) (hg : Gl X x) (ha : PA X (e :: es) t)
    (hdb : (x == ("__debug__" : Str)) = false := by decide) (he : starEach (e :: es) X.env = (false, eval e X.env) :: starEach es X.env := by rfl) (hpl : (backTo pos (starEach es X.env)).any (·.1) = false := by rfl) :
    PE X (.Call (.Name x p) (e :: es) [] pos) (tCall sp [] E t) := by
  obtain ⟨f, fd, ps, F, hm, kp, b⟩ := c.ex
  exact pe_call F (hr.mono hk) hg hm kp b .nil hx ha hdb he hpl
theorem pe_cE0 (c : Cal X.prog X.w X.K X.mg X.base C k x sp) (hr : Room j X.A) (hk : k ≤ j) (hx : Passes C X E) (hg : Gl X x)
    (hdb : (x == ("__debug__" : Str)) = false := by decide) : PE X (.Call (.Name x p) [] [] pos) (tCall sp [] E tNil) := by
  obtain ⟨f, fd, ps, F, hm, kp, b⟩ := c.ex
  exact pe_call0 F (hr.mono hk) hg hm kp b .nil hx hdb
/-- a def that lets nothing out -/
theorem pe_c (c : Cal X.prog X.w X.K X.mg X.base CX0 k x sp) (hr : Room j X.A) (hk : k ≤ j) (hg : Gl X x) (ha : PA X (e :: es) t)
    (hdb : (x == ("__debug__" : Str)) = false := by decide) (he : starEach (e :: es) X.env = (false, eval e X.env) :: starEach es X.env := by rfl) (hpl : (backTo pos (starEach es X.env)).any (·.1) = false := by rfl) :
    PE X (.Call (.Name x p) (e :: es) [] pos) (tCall sp [] E0 t) := pe_cE c hr hk pass0 hg ha hdb he hpl
theorem pe_c0 (c : Cal X.prog X.w X.K X.mg X.base CX0 k x sp) (hr : Room j X.A) (hk : k ≤ j) (hg : Gl X x)
    (hdb : (x == ("__debug__" : Str)) = false := by decide) : PE X (.Call (.Name x p) [] [] pos) (tCall sp [] E0 tNil) := pe_cE0 c hr hk pass0 hg hdb
end
section
variable {X : Cx} {k j : Nat} {x : Str} {sp : Sp} {p pos : Pos} {e : Expr} {es : List Expr} {t : TA} {C : CXT} {E : L2.St → XK}
/-- a call within a try -/
theorem pe_cS (c : Cal X.prog X.w X.K X.mg X.base C k x sp) (hr : Room j X.A) (hk : k ≤ j) (hg : Gl X x) (hx : ∀ σ, PassesAt C X σ (E σ)) (ha : PA X (e :: es) t)
    (hdb : (x == ("__debug__" : Str)) = false := by decide) (he : starEach (e :: es) X.env = (false, eval e X.env) :: starEach es X.env := by rfl) (hpl : (backTo pos (starEach es X.env)).any (·.1) = false := by rfl) : PE X (.Call (.Name x p) (e :: es) [] pos) (tCallS sp E t) := by
  obtain ⟨f, fd, ps, F, hm, kp, b⟩ := c.ex
  exact pe_callS F (hr.mono hk) hg hm kp b hx ha hdb he hpl
end
theorem hu64 {A : Around} {k : Nat} (hr : Room k A) : A.units + 64 < cLine := by have := hr.un; omega
/-! ### numbers -/
theorem small64 {n : Nat} (h : n ≤ 1000000) : n ≤ sizeLine := Nat.le_trans h (by decide)
theorem small64' {n : Nat} (h : n ≤ 1000000) : n < sizeLine := Nat.lt_of_le_of_lt h (by decide)
theorem shl1 {j : Int} (h : 0 ≤ j) (h2 : j ≤ 100000) : CShl 1 j := by
  obtain ⟨n, rfl⟩ := Int.eq_ofNat_of_zero_le h
  exact shl_ok (n := 1) (by decide) (by omega)
theorem shlN {i j : Int} (hi : i.natAbs < 2 ^ 1000) (h : 0 ≤ j) (h2 : j ≤ 100000) : CShl i j := by
  obtain ⟨n, rfl⟩ := Int.eq_ofNat_of_zero_le h
  exact shl_ok (n := 1000) hi (by omega)
theorem pow_pos2 (k : Nat) : (0 : Int) < 2 ^ k := PySem.W.kbt_pos k
/-! ### heaps -/
theorem Same.new {H : Hp} {p : Addr} {o : HO} (h : H p = none) : Same H (upd H p o) := fun b x e => by
  rw [upd_ne (ne_of_none e h)]; exact e
theorem SqL.new {K : PySem.W.Frag} {H : Hp} {p : Addr} {xs : List V} : SqL K (upd H p (.lst xs)) p xs := .inl (.inl upd_same)
theorem SqT.new {K : PySem.W.Frag} {H : Hp} {p : Addr} {xs : List V} : SqT K (upd H p (.tup xs)) p xs := .inl (.inl upd_same)

/-! ### operators in the words that the readings like -/
section
variable {X : Cx}
/-- i << j, i of a usual size -/
theorem op_shlS : OpR X (binaryOp .LShift) (fun x y H Q => ∃ i j : Int, x = .int i ∧ y = .int j ∧ (i.natAbs < 2 ^ 1000 ∧ 0 ≤ j ∧ j ≤ 100000) ∧ Q (.int (i * 2 ^ j.toNat)) H) := by
  intro pins s σ H x y v u Q I rx ry h
  obtain ⟨i, j, rfl, rfl, ⟨c0, c1, c2⟩, q⟩ := h
  exact op_shlW pins s σ H _ _ v u Q I rx ry ⟨i, j, rfl, rfl, shlN c0 c1 c2, q⟩
theorem nat_small {i : Int} (h : i.natAbs ≤ 18446744073709551616) : i.natAbs < 2 ^ 1000 := Nat.lt_of_le_of_lt h (by decide +kernel)
/-- 1 << j -/
theorem op_shl1 : OpR X (binaryOp .LShift) (fun x y H Q => ∃ j : Int, x = .int 1 ∧ y = .int j ∧ (0 ≤ j ∧ j ≤ 100000) ∧ Q (.int (2 ^ j.toNat)) H) := by
  intro pins s σ H x y v u Q I rx ry h
  obtain ⟨j, rfl, rfl, ⟨c1, c2⟩, q⟩ := h
  refine op_shlW pins s σ H _ _ v u Q I rx ry ⟨1, j, rfl, rfl, shl1 c1 c2, ?_⟩
  show Q (.int (1 * 2 ^ j.toNat)) H
  rw [Int.one_mul]; exact q
end
/-- isinstance(x, T) of a value of a type of its own -/
theorem isi_int {K : PySem.W.Frag} {H : Hp} {i : Int} {Q : VK} (q : Q (.bl true) H) : rIsi K [.int i, .ty "int"] H Q := ⟨.int i, .ty "int", _, _, true, rfl, .ty _, .base (.int _), kit_ty (by decide +kernel), q⟩
theorem isi_int_bool {K : PySem.W.Frag} {H : Hp} {i : Int} {Q : VK} (q : Q (.bl false) H) : rIsi K [.int i, .ty "bool"] H Q := ⟨.int i, .ty "bool", _, _, false, rfl, .ty _, .base (.int _), kit_ty (by decide +kernel), q⟩
theorem isi_list {K : PySem.W.Frag} {H : Hp} {a : Addr} {xs : List V} {Q : VK} (h : H a = some (.lst xs)) (q : Q (.bl true) H) : rIsi K [.ref a, .ty "list"] H Q := ⟨.ref a, .ty "list", _, _, true, rfl, .ty _, .base (.lst h), kit_ty (by decide +kernel), q⟩
theorem isi_tup {K : PySem.W.Frag} {H : Hp} {a : Addr} {xs : List V} {Q : VK} (h : H a = some (.tup xs)) (q : Q (.bl true) H) : rIsi K [.ref a, .ty "tuple"] H Q := ⟨.ref a, .ty "tuple", _, _, true, rfl, .ty _, .base (.tup h), kit_ty (by decide +kernel), q⟩
theorem isi_str {K : PySem.W.Frag} {H : Hp} {z : Str} {Q : VK} (q : Q (.bl true) H) : rIsi K [.str z, .ty "str"] H Q := ⟨.str z, .ty "str", _, _, true, rfl, .ty _, .base (.str _), kit_ty (by decide +kernel), q⟩
/-! ### lists of ints -/
theorem at_ints {ns : List Int} {k : Nat} (h : k < ns.length) : atI (ns.map V.int) (k : Int) = some (.int (ns.getD k 0)) := atI_nat (by
  rw [List.getElem?_map, List.getElem?_eq_getElem h, List.getD_eq_getElem?_getD, List.getElem?_eq_getElem h]; rfl)
theorem cut_to (xs : List V) (k : Nat) : cutV xs none (some (k : Int)) = xs.take k := by
  unfold cutV
  rw [HT.sIx_nat, HT.sIx_none, List.drop_zero, Nat.sub_zero]
  rcases Nat.le_total k xs.length with h | h
  · rw [Nat.min_eq_left h]
  · rw [Nat.min_eq_right h, List.take_length, List.take_of_length_le h]
theorem cut_from (xs : List V) (k : Nat) : cutV xs (some (k : Int)) none = xs.drop k := by
  unfold cutV
  rw [HT.sIx_nat, HT.sIx_none]
  rcases Nat.le_total k xs.length with h | h
  · rw [Nat.min_eq_left h]; exact List.take_of_length_le (by rw [List.length_drop]; exact Nat.le_refl _)
  · rw [Nat.min_eq_right h, Nat.sub_self, List.take_zero, List.drop_eq_nil_of_le h]
/-! ### a reading, gone through as far as it goes by sight -/
local macro_rules | `(tactic| walk_at "side") => `(tactic| first
  | (show _ = _; rfl)
  | (show (0 : Int) < _; first | omega | exact pow_pos2 _)
  | (show (0 : Int) ≤ _; omega)
  | (show (0 : Int) ≤ _ ∧ _; constructor <;> omega)
  | (show (0 : Int) < _ ∧ _; constructor <;> omega)
  | (show (_ < _ ∧ _ < _) ∨ (_ < _ ∧ _ < _); first | exact .inl ⟨by omega, by omega⟩ | exact .inr ⟨by omega, by omega⟩))
local macro_rules | `(tactic| walk_at "loop") => `(tactic| (show ∃ W : (Nat → Nat → L2.St → Hp → Prop), _))
local macro_rules | `(tactic| walk_at "go1") => `(tactic| (fail_if_success walk_at "loop"); first
  | refine And.intro (show (_ : Int) ≤ _ by omega) ?_
  | refine ⟨_, rfl, ?_⟩
  | refine ⟨_, _, rfl, rfl, ?_⟩
  | refine ⟨_, rfl, rfl, ?_⟩
  | refine .inl ⟨_, rfl, ?_⟩
  | refine ⟨_, .ty "int", _, _, true, rfl, .ty _, .base (.int _), kit_ty (by decide +kernel), ?_⟩
  | refine ⟨_, .ty "bool", _, _, false, rfl, .ty _, .base (.int _), kit_ty (by decide +kernel), ?_⟩
  | refine ⟨_, .ty "bool", _, _, false, rfl, .ty _, .base (.str _), kit_ty (by decide +kernel), ?_⟩
  | refine ⟨_, .ty "str", _, _, true, rfl, .ty _, .base (.str _), kit_ty (by decide +kernel), ?_⟩
  | refine ⟨_, .ty "list", _, _, true, rfl, .ty _, .base (.lst (by assumption)), kit_ty (by decide +kernel), ?_⟩
  | refine ⟨_, .ty "tuple", _, _, true, rfl, .ty _, .base (.tup (by assumption)), kit_ty (by decide +kernel), ?_⟩
  | refine ⟨_, _, rfl, .inl (by assumption), ?_⟩
  | refine ⟨_, _, rfl, .inr (by assumption), ?_⟩
  | refine ⟨_, _, rfl, ?_⟩
  | refine ⟨_, _, _, _, rfl, rfl, by assumption, at_ints (by omega), ?_⟩
  | refine ⟨_, _, _, _, rfl, rfl, by assumption, rfl, ?_⟩
  | refine iteF ?_
  | refine iteT ?_
  | refine iteNS rfl ?_
  | (refine And.intro ?h1 ?h2; case h1 => first
    | walk_at "side"
    | assumption
    | (show (_ : Nat) ≤ _; omega)
    | (show (_ : Int) ≤ _; omega)
    | (show (_ : Int) < _; omega)
    | (show 0 ≤ sizeLine; decide)
    | (show 1 ≤ sizeLine; decide)
    | (show 2 ≤ sizeLine; decide)
    | (show 3 ≤ sizeLine; decide)
    | (show 4 ≤ sizeLine; decide)
    | (show (_ : Nat) ≤ _; decide)))
local macro_rules | `(tactic| walk_at "go") => `(tactic| repeat walk_at "go1")
/-! ### tests that read alone, loops -/
theorem tor_b {t u : TT} {σ : L2.St} {H : Hp} {Q : Bool → Hp → Prop} (b1 b2 : Bool) (h1 : ∀ Q, Q b1 H → t σ H Q) (h2 : ∀ Q, Q b2 H → u σ H Q) (q : Q (b1 || b2) H) : tOr t u σ H Q := by
  refine h1 _ ?_
  cases b1 with
  | true => rw [if_pos rfl]; exact q
  | false => rw [if_neg (by decide)]; exact h2 _ q
theorem tand_b {t u : TT} {σ : L2.St} {H : Hp} {Q : Bool → Hp → Prop} (b1 b2 : Bool) (h1 : ∀ Q, Q b1 H → t σ H Q) (h2 : ∀ Q, Q b2 H → u σ H Q) (q : Q (b1 && b2) H) : tAnd t u σ H Q := by
  refine h1 _ ?_
  cases b1 with
  | true => rw [if_pos rfl]; exact h2 _ q
  | false => rw [if_neg (by decide)]; exact q
theorem while_ev {c : TT} {tb : TS} {D : Ends} {σ : L2.St} {H : Hp} (Pv : L2.St → Hp → Prop) (μ : L2.St → Hp → Nat) (h0 : Pv σ H)
    (hs : ∀ σ H, Pv σ H → ∃ b : Bool, (∀ Q, Q b H → c σ H Q) ∧ (b = true → tb { D with nx := fun σ' H' => Pv σ' H' ∧ μ σ' H' < μ σ H, ct := fun σ' H' => Pv σ' H' ∧ μ σ' H' < μ σ H, bk := D.nx } σ H) ∧ (b = false → D.nx σ H)) : tWhile c tb D σ H := by
  refine ⟨fun m σ H => m = μ σ H ∧ Pv σ H, ⟨_, rfl, h0⟩, ?_⟩
  rintro m σ H ⟨rfl, p⟩
  obtain ⟨b, h1, h2, h3⟩ := hs σ H p
  refine h1 _ ?_
  cases b with
  | true => exact ⟨_, fun σ' H' ⟨p', l⟩ => ⟨_, l, rfl, p'⟩, h2 rfl⟩
  | false => exact h3 rfl
/-- the loops' bookkeeping, with what follows and what returns told apart -/
theorem for_listD {K : PySem.W.Frag} {a : Addr} {xs : List V} {g : TG} {tb : TS} {nx : L2.St → Hp → Prop} {rt : VK} {σ : L2.St} {H : Hp} (Pv : Nat → L2.St → Hp → Prop) (h0 : Pv 0 σ H) (hl : ∀ i σ H, i ≤ xs.length → Pv i σ H → SqL K H a xs)
    (hs : ∀ i x σ H, xs[i]? = some x → Pv i σ H → g x σ H fun σ2 H2 => tb { nx := Pv (i + 1), rt := rt, bk := nx, ct := Pv (i + 1) } σ2 H2) (hd : ∀ σ H, Pv xs.length σ H → nx σ H) :
    ∃ W : Nat → Nat → L2.St → Hp → Prop, (∃ m, W 0 m σ H) ∧ ∀ i m σ H, W i m σ H → ((Itl K a).stop i H ∧ nx σ H) ∨ ((Itl K a).go i H ∧ ∃ N : L2.St → Hp → Prop, (∀ σ' H', N σ' H' → ∃ m', m' < m ∧ W (i + 1) m' σ' H') ∧
      ∀ x H', (Itl K a).yld i H x H' → g x σ H' fun σ2 H2 => tb { nx := N, rt := rt, bk := nx, ct := N } σ2 H2) := for_list (D := { nx := nx, rt := rt }) Pv h0 hl hs hd
theorem for_rangeD {lo : Int} {n : Nat} {g : TG} {tb : TS} {nx : L2.St → Hp → Prop} {rt : VK} {σ : L2.St} {H : Hp} (Pv : Nat → L2.St → Hp → Prop) (h0 : Pv 0 σ H)
    (hs : ∀ i σ H, i < n → Pv i σ H → g (.int (lo + i)) σ H fun σ2 H2 => tb { nx := Pv (i + 1), rt := rt, bk := nx, ct := Pv (i + 1) } σ2 H2) (hd : ∀ σ H, Pv n σ H → nx σ H) :
    ∃ W : Nat → Nat → L2.St → Hp → Prop, (∃ m, W 0 m σ H) ∧ ∀ i m σ H, W i m σ H → ((Itr lo n).stop i H ∧ nx σ H) ∨ ((Itr lo n).go i H ∧ ∃ N : L2.St → Hp → Prop, (∀ σ' H', N σ' H' → ∃ m', m' < m ∧ W (i + 1) m' σ' H') ∧
      ∀ x H', (Itr lo n).yld i H x H' → g x σ H' fun σ2 H2 => tb { nx := N, rt := rt, bk := nx, ct := N } σ2 H2) := for_range (D := { nx := nx, rt := rt }) Pv h0 hs hd
/-! ### a comprehension that makes f of each item -/
theorem lc_map {K : PySem.W.Frag} {a : Addr} {xs : List V} {j : Nat} {te : TE} {σ : L2.St} {H1 : Hp} {D : Addr} {Qd : Hp → Prop} (f : V → V) (hD : H1 D = none) (hS : SqL K H1 a xs) (hn : xs.length ≤ 100000)
    (hs : ∀ x H Q, x ∈ xs → Same H1 H → (∀ H', Same H H' → Q (f x) H') → te ((σ.set j none).set j (some x)) H Q) (hd : ∀ H, Same H1 H → H D = some (.lst (xs.map f)) → Qd H) :
    ∃ W : Nat → Nat → Hp → Prop, (∃ m, W 0 m (upd H1 D (.lst []))) ∧ ∀ i m H, W i m H →
      ((Itl K a).stop i H ∧ Qd H) ∨ ((Itl K a).go i H ∧ ∃ Nx : Hp → Prop, (∀ H', Nx H' → ∃ m', m' < m ∧ W (i + 1) m' H') ∧ ∀ x H', (Itl K a).yld i H x H' → gName j x (wipe σ [j]) H' fun σ2 H2 => wipe σ2 [j] = wipe σ [j] ∧ tYes σ2 H2 fun b H3 =>
        if b = true then te σ2 H3 fun y H4 => ∃ acc, H4 D = some (.lst acc) ∧ acc.length < sizeLine ∧ Nx (upd H4 D (.lst (acc ++ [y]))) else Nx H3) := by
  refine lc_list (xs := xs) (fun i H => Same H1 H ∧ H D = some (.lst ((xs.take i).map f))) ⟨Same.new hD, by rw [upd_same]; rfl⟩ (fun i H _ h => h.1.seq hS) (fun i x H hx h => ?_) (fun H h => hd H h.1 (by rw [List.take_length] at h; exact h.2))
  have hi : i < xs.length := (List.getElem?_eq_some_iff.mp hx).1
  refine ⟨?_, ?_⟩
  · show (((σ.set j none).set j (some x)).set j none) = σ.set j none
    rw [List.set_set, List.set_set]
  · simp only [tYes, if_true]
    refine hs x H _ (List.mem_of_getElem? hx) h.1 fun H' s' => ?_
    refine ⟨_, s' _ _ h.2, ?_, fun b o e => ?_, ?_⟩
    · rw [List.length_map, List.length_take]; exact small64' (by omega)
    · have nb : b ≠ D := fun z => by rw [z, hD] at e; cases e
      rw [upd_ne nb]; exact s' _ _ (h.1 _ _ e)
    · rw [upd_same, List.take_add_one, hx, List.map_append]; rfl

/-! ### own errors with fields -/
/-- what the top has written of an own error's class, whose base is ValueError by some way -/
structure ExK (K : PySem.W.Frag) (mg : Str → Option Value) (x : Str) (C : Addr) : Prop where
  g : mg x = some (.ref C)
  T : OexC K C
  ga : PySem.W.findIn K (.ref C) "__getattribute__" = some (some (.builtin "BaseException.__getattribute__"))
  gg : PySem.W.findIn K (.ref C) "__getattr__" = some none
  hd : PySem.W.hasDictIn K C = true
  ca : PySem.W.findIn K (.ref C) "__class__" = some (some (.builtin "object.__class__"))
  sp : PySem.W.specialIn K (.builtin "object.__class__") "__get__" = some (some (.builtin "getset_descriptor.__get__"))
  tk : PySem.W.takesIn K (.builtin "object.__class__") = some true
  mr : PySem.W.mroIn K C (.type "object") = some true
theorem ExK.xf {K : PySem.W.Frag} {mg : Str → Option Value} {x : Str} {C : Addr} (k : ExK K mg x C) : XfC K C := ⟨k.ga, k.gg, k.T.exC, k.hd⟩
def spI1 (K : PySem.W.Frag) (C : Addr) (a : Str) : Sp := fun vs H Q _ => ∃ (s : Addr) (v : V), vs = [.ref s, v] ∧ H s = some (exo s C none) ∧
  ∀ d, H d = none → d ≠ s → Q .non (upd (upd H d (exd d [(a, v)])) s (exo s C (some d)))
def spI2 (K : PySem.W.Frag) (C : Addr) (a b : Str) : Sp := fun vs H Q _ => ∃ (s : Addr) (v u : V), vs = [.ref s, v, u] ∧ H s = some (exo s C none) ∧
  ∀ d, H d = none → d ≠ s → Q .non (upd (upd (upd H d (exd d [(a, v)])) s (exo s C (some d))) d (exd d [(b, u), (a, v)]))
theorem del_upd {H : Hp} {s d : Addr} {o o' : HO} (hs : H s = none) (hd : H d = none) (ne : d ≠ s) {K : Hp} (hK : ∀ b, b ≠ s → b ≠ d → K b = H b) : Same H (upd (del K s) d o) := fun b x e => by
  have nd : b ≠ d := ne_of_none e hd
  have ns : b ≠ s := ne_of_none e hs
  rw [upd_ne nd, del_ne ns, hK b ns nd]; exact e
/-- X(v): an error flies whose dict, new at d, holds the field; all else stands -/
theorem fly1 {K : PySem.W.Frag} {C : Addr} {a : Str} {v : V} {H : Hp} {Q : XK} (h : ∀ d Hf, Same H Hf → Hf d = some (.xd [(a, v)]) → Q (.ref C) (some d) Hf) :
    ([v] : List V).length ≤ 1000 ∧ ∀ s, H s = none → spI1 K C a (.ref s :: ([v] ++ [])) (upd H s (exo s C none))
      (fun v H2 => v = .non ∧ ∃ (d : Addr) (fs : List (Str × V)), H2 s = some (exo s C (some d)) ∧ H2 d = some (exd d fs) ∧ H d = none ∧ Q (.ref C) (some d) (upd (del H2 s) d (.xd fs))) (fun _ _ _ => False) := by
  refine ⟨by show 1 ≤ 1000; decide, fun s hs => ⟨s, v, rfl, upd_same, fun d hd ne => ⟨rfl, d, [(a, v)], upd_same, ?_, ?_, ?_⟩⟩⟩
  · rw [upd_ne ne, upd_same]
  · rw [upd_ne ne] at hd; exact hd
  · have hd' : H d = none := by rw [upd_ne ne] at hd; exact hd
    refine h d _ (del_upd (o' := .lst []) hs hd' ne fun b nb nd => ?_) upd_same
    rw [upd_ne nb, upd_ne nd, upd_ne nb]
theorem fly2 {K : PySem.W.Frag} {C : Addr} {a b : Str} {v u : V} {H : Hp} {Q : XK} (h : ∀ d Hf, Same H Hf → Hf d = some (.xd [(b, u), (a, v)]) → Q (.ref C) (some d) Hf) :
    ([v, u] : List V).length ≤ 1000 ∧ ∀ s, H s = none → spI2 K C a b (.ref s :: ([v, u] ++ [])) (upd H s (exo s C none))
      (fun v H2 => v = .non ∧ ∃ (d : Addr) (fs : List (Str × V)), H2 s = some (exo s C (some d)) ∧ H2 d = some (exd d fs) ∧ H d = none ∧ Q (.ref C) (some d) (upd (del H2 s) d (.xd fs))) (fun _ _ _ => False) := by
  refine ⟨by show 2 ≤ 1000; decide, fun s hs => ⟨s, v, u, rfl, upd_same, fun d hd ne => ⟨rfl, d, [(b, u), (a, v)], ?_, upd_same, ?_, ?_⟩⟩⟩
  · rw [upd_ne ne.symm, upd_same]
  · rw [upd_ne ne] at hd; exact hd
  · have hd' : H d = none := by rw [upd_ne ne] at hd; exact hd
    refine h d _ (del_upd (o' := .lst []) hs hd' ne fun b nb nd => ?_) upd_same
    rw [upd_ne nd, upd_ne nb, upd_ne nd, upd_ne nb]
section
variable {P : Program} {w : World} {K : PySem.W.Frag} {mg : Str → Option Value} {base : Heap} {C f : Addr} {fd : FuncData} {qual : Str}
/-- an __init__ that stores its one parameter, its two parameters, under their names -/
theorem init1 {st : Stmt} {a : Str} (F : L2.Fun K "__init__" qual st f fd) (S : FnScope ["self", a] ["self", a] (defScope st)) (T : OexC K C) (na : PySem.W.findIn K (.ref C) a = some none) {p1 p2 p3 p4 : Pos} (hb : defBody st = [.Assign [.Attribute (.Name "self" p1) a p2] (.Name a p3) p4])
    (va : Vis (defScope st) a) (vs : Vis (defScope st) "self") (d1 : (a == ("__debug__" : Str)) = false) (d2 : (a == ("__classdict__" : Str)) = false) : FnOk P w K mg base CX0 1 f fd ["self", a] (spI1 K C a) := by
  refine F.ok S (fun vs H Q E h => ?_) (fun cdv A outer s H vs Q E hr h => ?_)
  · obtain ⟨s, v, rfl, _⟩ := h; rfl
  · obtain ⟨s, v, rfl, hs, q⟩ := h
    rw [hb]
    refine ⟨_, pss_one (ps_ost (pe_var (i := 0) rfl (by assumption)) (pe_var (i := 1) rfl (by assumption) d1 d2)), ?_⟩
    exact ⟨_, rfl, _, rfl, s, C, rfl, T, na, .inl ⟨hs, fun d hd ne => q d hd ne⟩⟩
theorem init2 {st : Stmt} {a b : Str} (F : L2.Fun K "__init__" qual st f fd) (S : FnScope ["self", a, b] ["self", a, b] (defScope st)) (T : OexC K C) (na : PySem.W.findIn K (.ref C) a = some none) (nb : PySem.W.findIn K (.ref C) b = some none) {p1 p2 p3 p4 q1 q2 q3 q4 : Pos}
    (hb : defBody st = [.Assign [.Attribute (.Name "self" p1) a p2] (.Name a p3) p4, .Assign [.Attribute (.Name "self" q1) b q2] (.Name b q3) q4])
    (va : Vis (defScope st) a) (vb : Vis (defScope st) b) (vs : Vis (defScope st) "self") (d1 : (a == ("__debug__" : Str)) = false) (d2 : (a == ("__classdict__" : Str)) = false) (d3 : (b == ("__debug__" : Str)) = false) (d4 : (b == ("__classdict__" : Str)) = false) : FnOk P w K mg base CX0 1 f fd ["self", a, b] (spI2 K C a b) := by
  refine F.ok S (fun vs H Q E h => ?_) (fun cdv A outer s H vs Q E hr h => ?_)
  · obtain ⟨s, v, u, rfl, _⟩ := h; rfl
  · obtain ⟨s, v, u, rfl, hs, q⟩ := h
    rw [hb]
    refine ⟨_, pss_cons (ps_ost (pe_var (i := 0) rfl (by assumption)) (pe_var (i := 1) rfl (by assumption) d1 d2)) (pss_one (ps_ost (pe_var (i := 0) rfl (by assumption)) (pe_var (i := 2) rfl (by assumption) d3 d4))), ?_⟩
    refine ⟨_, rfl, _, rfl, s, C, rfl, T, na, .inl ⟨hs, fun d hd ne => ?_⟩⟩
    exact ⟨_, rfl, _, rfl, s, C, rfl, T, nb, .inr ⟨d, _, upd_same, by rw [upd_ne ne, upd_same], (by show 1 ≤ 900; decide), q d hd ne⟩⟩
end
/-- isinstance(e, c), e the caught error at a, of the class D, its dict at dd -/
theorem call_isX {X : Cx} {a D : Addr} {oe : Obj} {cls : Value} {d : Option Addr} {pn : List (Addr × Obj)} (hz : Zc cls d oe) (hf : ∃ vs, oe.data = .fields vs) {x : Str} (k : ExK X.K X.mg x D) : CallR (X.suite a ((a, oe) :: pn)) (.builtin "isinstance")
    (fun xs H Q => ∃ (c : V) (cv : Value) (b : Bool) (dd : Addr) (fs : List (Str × V)), xs = [.ref a, c] ∧ cls = .ref D ∧ d = some dd ∧ H dd = some (.xd fs) ∧ RelV c cv ∧ (∀ u, RelV c u → u = cv) ∧ PySem.W.kitOne X.K (.ref D) cv = some b ∧ Q (.bl b) H) := by
  intro pins s σ H xs us Q I r h
  obtain ⟨c, cv, b, dd, fs, rfl, rfl, rfl, ea, _, hcv, e, q⟩ := h
  obtain ⟨u1, u2, rfl, r1, r2⟩ := vals2 r
  cases r1
  have ec := hcv _ r2
  subst ec
  obtain ⟨hget, _⟩ := I.pin (a, oe) (List.mem_append.mpr (.inl List.mem_cons_self))
  obtain ⟨vs, hv⟩ := hf
  have hx : ObjOk X.prog X.w H s.heap dd (.xd fs) := I.hok dd _ ea
  obtain ⟨mA, ⟨od, es, ep, ho, hl⟩, hr⟩ := hx
  have J : PySem.W.InstAt s.heap a oe D (some od) := ⟨hget, hz.1, by unfold PySem.W.notCls; rw [hv] <;> rfl, by rw [hz.2]; exact ho⟩
  have hc : (PySem.W.clsIn X.K D).isSome = true := by
    have h := k.hd
    unfold PySem.W.hasDictIn at h
    cases hh : PySem.W.clsIn X.K D with
    | none => rw [hh] at h; cases h
    | some cd => rfl
  exact PySem.W.kia_one (PySem.W.kitx_exc hc k.ga k.gg k.T.exC k.ca k.sp k.tk k.mr) I.kIn J e (fun z => nomatch z) fun tk => ⟨.bl b, H, I.kept (t' := tk) fun _ _ z => z, rfl, q⟩
/-- what isinstance and an except clause ask of own classes -/
theorem kit_self {K : PySem.W.Frag} {C : Addr} : PySem.W.kitOne K (.ref C) (.ref C) = some true := by
  unfold PySem.W.kitOne
  rw [if_pos (by exact beq_self_eq_true (Value.ref C))]
theorem kit_two {K : PySem.W.Frag} {D C : Addr} {b : Bool} (ne : (Value.ref D == Value.ref C) = false) (hd : PySem.W.hasDictIn K C = true) (ht : PySem.W.typeIn K (.ref C) = some (.type "type")) (hs : PySem.W.subIn K (.ref D) (.ref C) = some b) : PySem.W.kitOne K (.ref D) (.ref C) = some b := by
  have hc : (PySem.W.clsIn K C).isSome = true := by
    unfold PySem.W.hasDictIn at hd
    cases hh : PySem.W.clsIn K C with
    | none => rw [hh] at hd; cases hd
    | some cd => rfl
  unfold PySem.W.kitOne PySem.W.kitCls
  rw [ne, if_neg (by decide)]
  show (if ((PySem.W.clsIn K C).isSome && PySem.W.typeIn K (.ref C) == some (.type "type")) = true then PySem.W.subIn K (.ref D) (.ref C) else none) = some b
  rw [hc, ht, hs]; rfl
theorem kit_ve {K : PySem.W.Frag} {D : Addr} (hs : PySem.W.subIn K (.ref D) (.type "ValueError") = some true) : PySem.W.kitOne K (.ref D) (.type "ValueError") = some true := by
  unfold PySem.W.kitOne PySem.W.kitCls
  rw [show (Value.ref D == Value.type "ValueError") = false from rfl, if_neg (by decide)]
  show (if PySem.W.kitMeta "ValueError" = true then PySem.W.subIn K (.ref D) (.type "ValueError") else none) = some true
  rw [if_pos (by decide +kernel), hs]

/-! ### the text by places -/
def top (i : Nat) : Stmt := PySem.Challenge.pw_wasmhost_k11_numbers_read.main.body.getD i (.Pass ⟨0, 0, 0, 0⟩)
abbrev s_byte_at : Stmt := top 5
abbrev s_read_groups : Stmt := top 6
abbrev s_read_unsigned : Stmt := top 7
abbrev s_read_signed : Stmt := top 8
abbrev s__law_is_integer : Stmt := top 10
abbrev s__law_cell : Stmt := top 11
abbrev s__law_last : Stmt := top 12
abbrev s__law_due : Stmt := top 13
abbrev s__law_told : Stmt := top 14
abbrev s__law_data : Stmt := top 15
abbrev s_law : Stmt := top 16
theorem sc_byte_at : FnScope ["data", "place", "end"] ["data", "place", "end"] (defScope s_byte_at) := ⟨rfl, rfl, rfl, by decide +kernel, rfl, by decide +kernel, by decide +kernel⟩
theorem sc_read_groups : FnScope ["data", "place", "end", "bits", "low", "left", "byte"] ["data", "place", "end", "bits"] (defScope s_read_groups) := ⟨rfl, rfl, rfl, by decide +kernel, rfl, by decide +kernel, by decide +kernel⟩
theorem sc_read_unsigned : FnScope ["data", "place", "end", "bits", "low", "last", "left"] ["data", "place", "end", "bits"] (defScope s_read_unsigned) := ⟨rfl, rfl, rfl, by decide +kernel, rfl, by decide +kernel, by decide +kernel⟩
theorem sc_read_signed : FnScope ["data", "place", "end", "bits", "low", "last", "left", "bound"] ["data", "place", "end", "bits"] (defScope s_read_signed) := ⟨rfl, rfl, rfl, by decide +kernel, rfl, by decide +kernel, by decide +kernel⟩
theorem sc__law_is_integer : FnScope ["actual"] ["actual"] (defScope s__law_is_integer) := ⟨rfl, rfl, rfl, by decide +kernel, rfl, by decide +kernel, by decide +kernel⟩
theorem sc__law_cell : FnScope ["script", "k"] ["script", "k"] (defScope s__law_cell) := ⟨rfl, rfl, rfl, by decide +kernel, rfl, by decide +kernel, by decide +kernel⟩
theorem sc__law_last : FnScope ["group", "bits", "with_sign", "value"] ["group", "bits", "with_sign"] (defScope s__law_last) := ⟨rfl, rfl, rfl, by decide +kernel, rfl, by decide +kernel, by decide +kernel⟩
theorem sc__law_due : FnScope ["data", "place", "end", "bits", "with_sign", "number", "weight", "k", "byte", "value", "fits"] ["data", "place", "end", "bits", "with_sign"] (defScope s__law_due) := ⟨rfl, rfl, rfl, by decide +kernel, rfl, by decide +kernel, by decide +kernel⟩
theorem sc__law_told : FnScope ["data", "place", "end", "bits", "with_sign", "e"] ["data", "place", "end", "bits", "with_sign"] (defScope s__law_told) := ⟨rfl, rfl, rfl, by decide +kernel, rfl, by decide +kernel, by decide +kernel⟩
theorem sc__law_data : FnScope ["script", "first", "data", "cell", "k", "byte"] ["script"] (defScope s__law_data) := ⟨rfl, rfl, rfl, by decide +kernel, rfl, by decide +kernel, by decide +kernel⟩
theorem sc_law : FnScope ["script", "data", "bits", "place", "end", "size", "with_sign", "passed", "due", "told"] ["script"] (defScope s_law) := ⟨rfl, rfl, rfl, by decide +kernel, rfl, by decide +kernel, by decide +kernel⟩
/-- where the own classes stand -/
structure Cs where
  C_HostError : Addr
  C_DecodeError : Addr
  I_DecodeError : Addr
  D_DecodeError : FuncData
  C_LimitReached : Addr
  I_LimitReached : Addr
  D_LimitReached : FuncData
abbrev i_DecodeError : Stmt := inClass (top 2) 0
theorem sci_DecodeError : FnScope ["self", "reason", "place"] ["self", "reason", "place"] (defScope i_DecodeError) := ⟨rfl, rfl, rfl, by decide +kernel, rfl, by decide +kernel, by decide +kernel⟩
abbrev i_LimitReached : Stmt := inClass (top 3) 0
theorem sci_LimitReached : FnScope ["self", "what"] ["self", "what"] (defScope i_LimitReached) := ⟨rfl, rfl, rfl, by decide +kernel, rfl, by decide +kernel, by decide +kernel⟩
/-- what the top leaves: built-in names that nothing binds, own classes -/
structure Tp (w : World) (K : PySem.W.Frag) (mg : Str → Option Value) (cs : Cs) : Prop where
  m_bool : mg "bool" = none
  m_int : mg "int" = none
  m_isinstance : mg "isinstance" = none
  m_len : mg "len" = none
  m_list : mg "list" = none
  m_range : mg "range" = none
  m_tuple : mg "tuple" = none
  g_HostError : mg "HostError" = some (.ref cs.C_HostError)
  g_DecodeError : mg "DecodeError" = some (.ref cs.C_DecodeError)
  e_DecodeError : ExK K mg "DecodeError" cs.C_DecodeError
  iC_DecodeError : PySem.W.findIn K (.ref cs.C_DecodeError) "__init__" = some (some (.ref cs.I_DecodeError))
  tI_DecodeError : PySem.W.typeIn K (.ref cs.I_DecodeError) = some (.type "function")
  F_DecodeError : L2.Fun K "__init__" "DecodeError.__init__" i_DecodeError cs.I_DecodeError cs.D_DecodeError
  b_DecodeError : Binds K cs.D_DecodeError ["self", "reason", "place"] []
  no_DecodeError_reason : PySem.W.findIn K (.ref cs.C_DecodeError) "reason" = some none
  no_DecodeError_place : PySem.W.findIn K (.ref cs.C_DecodeError) "place" = some none
  kit_DecodeError_HostError : PySem.W.kitOne K (.ref cs.C_DecodeError) (.ref cs.C_HostError) = some true
  exm_DecodeError_HostError : PySem.W.exmOne K (.ref cs.C_DecodeError) (.ref cs.C_HostError) = some true
  kit_DecodeError_DecodeError : PySem.W.kitOne K (.ref cs.C_DecodeError) (.ref cs.C_DecodeError) = some true
  exm_DecodeError_DecodeError : PySem.W.exmOne K (.ref cs.C_DecodeError) (.ref cs.C_DecodeError) = some true
  kit_DecodeError_LimitReached : PySem.W.kitOne K (.ref cs.C_DecodeError) (.ref cs.C_LimitReached) = some false
  exm_DecodeError_LimitReached : PySem.W.exmOne K (.ref cs.C_DecodeError) (.ref cs.C_LimitReached) = some false
  kit_DecodeError_VE : PySem.W.kitOne K (.ref cs.C_DecodeError) (.type "ValueError") = some true
  g_LimitReached : mg "LimitReached" = some (.ref cs.C_LimitReached)
  e_LimitReached : ExK K mg "LimitReached" cs.C_LimitReached
  iC_LimitReached : PySem.W.findIn K (.ref cs.C_LimitReached) "__init__" = some (some (.ref cs.I_LimitReached))
  tI_LimitReached : PySem.W.typeIn K (.ref cs.I_LimitReached) = some (.type "function")
  F_LimitReached : L2.Fun K "__init__" "LimitReached.__init__" i_LimitReached cs.I_LimitReached cs.D_LimitReached
  b_LimitReached : Binds K cs.D_LimitReached ["self", "what"] []
  no_LimitReached_what : PySem.W.findIn K (.ref cs.C_LimitReached) "what" = some none
  kit_LimitReached_HostError : PySem.W.kitOne K (.ref cs.C_LimitReached) (.ref cs.C_HostError) = some true
  exm_LimitReached_HostError : PySem.W.exmOne K (.ref cs.C_LimitReached) (.ref cs.C_HostError) = some true
  kit_LimitReached_DecodeError : PySem.W.kitOne K (.ref cs.C_LimitReached) (.ref cs.C_DecodeError) = some false
  exm_LimitReached_DecodeError : PySem.W.exmOne K (.ref cs.C_LimitReached) (.ref cs.C_DecodeError) = some false
  kit_LimitReached_LimitReached : PySem.W.kitOne K (.ref cs.C_LimitReached) (.ref cs.C_LimitReached) = some true
  exm_LimitReached_LimitReached : PySem.W.exmOne K (.ref cs.C_LimitReached) (.ref cs.C_LimitReached) = some true
  kit_LimitReached_VE : PySem.W.kitOne K (.ref cs.C_LimitReached) (.type "ValueError") = some true
theorem in_DecodeError {P : Program} {w : World} {K : PySem.W.Frag} {mg : Str → Option Value} {base : Heap} {cs : Cs} (T : Tp w K mg cs) : FnOk P w K mg base CX0 1 cs.I_DecodeError cs.D_DecodeError ["self", "reason", "place"] (spI2 K cs.C_DecodeError "reason" "place") :=
  init2 T.F_DecodeError sci_DecodeError T.e_DecodeError.T T.no_DecodeError_reason T.no_DecodeError_place rfl (.inl rfl) (.inl rfl) (.inl rfl) (by decide) (by decide) (by decide) (by decide)
theorem in_LimitReached {P : Program} {w : World} {K : PySem.W.Frag} {mg : Str → Option Value} {base : Heap} {cs : Cs} (T : Tp w K mg cs) : FnOk P w K mg base CX0 1 cs.I_LimitReached cs.D_LimitReached ["self", "what"] (spI1 K cs.C_LimitReached "what") :=
  init1 T.F_LimitReached sci_LimitReached T.e_LimitReached.T T.no_LimitReached_what rfl (.inl rfl) (.inl rfl) (by decide) (by decide)
/-! ### lists of ints that are the same -/
theorem dp_all {K : PySem.W.Frag} {H : Hp} : ∀ ns : List Int, DpAll K H (ns.map V.int) (ns.map PyData.int)
  | [] => .nil
  | _ :: r => .cons (.int _) (dp_all r)
theorem canlay_ints : ∀ ns : List Int, PyData.canLayAll0 (ns.map PyData.int) = true
  | [] => rfl
  | _ :: r => by
    show PyData.canLayAll0 (PyData.int _ :: r.map PyData.int) = true
    simp only [PyData.canLayAll0, PyData.canLay0, canlay_ints r, Bool.and_self]
theorem depth_ints : ∀ ns : List Int, PyData.depthAll (ns.map PyData.int) ≤ 63
  | [] => by simp [PyData.depthAll]
  | _ :: r => by
    have h := depth_ints r
    simp [PyData.depthAll, PyData.depth] at h ⊢
    exact h
theorem shaped_ints (ns : List Int) : SeqAt.shaped (.list (ns.map PyData.int)) = true := by
  unfold SeqAt.shaped
  rw [Bool.and_eq_true]
  refine ⟨?_, decide_eq_true ?_⟩
  · simp only [PyData.canLay0, canlay_ints]
  · have h := depth_ints ns
    simp only [PyData.depth] at h ⊢
    omega
theorem eqD_same {K : PySem.W.Frag} {H : Hp} {x y : V} {d : PyData} {Q : VK} (h1 : Dp K H x d) (h2 : Dp K H y d) (s : SeqAt.shaped d = true) (q : Q (.bl true) H) : rEqD K x y H Q :=
  ⟨d, d, h1, h2, s, s, by rw [SeqAt.eqv_refl d (SeqAt.canLay_of_shaped s)]; exact q⟩
theorem neD_same {K : PySem.W.Frag} {H : Hp} {x y : V} {d : PyData} {Q : VK} (h1 : Dp K H x d) (h2 : Dp K H y d) (s : SeqAt.shaped d = true) (q : Q (.bl false) H) : rNeD K x y H Q :=
  ⟨d, d, h1, h2, s, s, by rw [SeqAt.eqv_refl d (SeqAt.canLay_of_shaped s)]; exact q⟩
theorem dp_ints {K : PySem.W.Frag} {H : Hp} {a : Addr} {ns : List Int} (h : SqL K H a (ns.map V.int)) : Dp K H (.ref a) (.list (ns.map PyData.int)) := .lst h (dp_all ns)
theorem eqv_ints (ns : List Int) : PyData.eqv (.list (ns.map PyData.int)) (.list (ns.map PyData.int)) = true := SeqAt.eqv_refl _ (SeqAt.canLay_of_shaped (shaped_ints ns))

/-! ### numbers in groups of seven bits: what the defs compute -/
def wu (n : Int) : List Int := if h : n < 128 then [n] else (128 + n % 128) :: wu (n / 128)
termination_by n.toNat
decreasing_by omega
def ws (n : Int) : List Int := if h : -64 ≤ n ∧ n ≤ 63 then [n % 128] else (128 + n % 128) :: ws (n / 128)
termination_by n.natAbs
decreasing_by omega
theorem wu_len : ∀ (k : Nat) (n : Int), 0 ≤ n → n < 128 ^ k → (wu n).length ≤ max k 1
  | 0, n, h0, h => by
    have : n = 0 := by simp at h; omega
    subst this
    rw [wu, dif_pos (by decide)]; simp
  | k + 1, n, h0, h => by
    rw [wu]
    split
    · simp
    · have e : (128 : Int) ^ (k + 1) = 128 ^ k * 128 := Int.pow_succ 128 k
      have p : (0 : Int) < 128 ^ k := Int.pow_pos (by decide)
      have ih := wu_len k (n / 128) (by omega) (by omega)
      simp only [List.length_cons]
      have hk : k ≠ 0 := fun z => by subst z; simp at h; omega
      omega
theorem ws_len : ∀ (k : Nat) (n : Int), -(64 * 128 ^ k) ≤ n → n < 64 * 128 ^ k → (ws n).length ≤ k + 1
  | 0, n, h0, h => by
    rw [ws, dif_pos (by omega)]; simp
  | k + 1, n, h0, h => by
    rw [ws]
    split
    · simp
    · have e : (128 : Int) ^ (k + 1) = 128 ^ k * 128 := Int.pow_succ 128 k
      have p : (0 : Int) < 128 ^ k := Int.pow_pos (by decide)
      have ih := ws_len k (n / 128) (by omega) (by omega)
      simp only [List.length_cons]
      omega
theorem wu_bytes (n : Int) (h : 0 ≤ n) : ∀ b ∈ wu n, 0 ≤ b ∧ b ≤ 255 := by
  rw [wu]
  split
  · intro b hb
    rw [List.mem_singleton] at hb; omega
  · intro b hb
    rcases List.mem_cons.mp hb with rfl | hb
    · omega
    · exact wu_bytes (n / 128) (by omega) b hb
termination_by n.toNat
decreasing_by omega
theorem ws_bytes (n : Int) : ∀ b ∈ ws n, 0 ≤ b ∧ b ≤ 255 := by
  rw [ws]
  split
  · intro b hb
    rw [List.mem_singleton] at hb; omega
  · intro b hb
    rcases List.mem_cons.mp hb with rfl | hb
    · omega
    · exact ws_bytes (n / 128) b hb
termination_by n.natAbs
decreasing_by omega
abbrev ER (α : Type) := Except (Str × Nat) α
/-- the groups from the place p on, left bits left: the sum so far, the last byte, what is left, its place -/
def grp (xs : List Int) (e b : Nat) (p left : Nat) (low : Int) : ER (Int × Int × Nat × Nat) :=
  if e ≤ p then .error ("unexpected end", e)
  else if xs.getD p 0 < 128 then .ok (low, xs.getD p 0, left, p)
  else if h : left ≤ 7 then .error ("number too long", p)
  else grp xs e b (p + 1) (left - 7) (low + (xs.getD p 0 - 128) * 2 ^ (b - left))
termination_by left
decreasing_by omega
theorem grp_ok {xs : List Int} {e b : Nat} {p left : Nat} {low : Int} {r : Int × Int × Nat × Nat} (h : grp xs e b p left low = .ok r) (h1 : 1 ≤ left) :
    r.2.1 = xs.getD r.2.2.2 0 ∧ r.2.1 < 128 ∧ 1 ≤ r.2.2.1 ∧ r.2.2.1 ≤ left ∧ p ≤ r.2.2.2 ∧ r.2.2.2 < e := by
  rw [grp] at h
  split at h
  · cases h
  · split at h
    · cases h
      rename_i a b
      exact ⟨rfl, b, h1, Nat.le_refl _, Nat.le_refl _, by show p < e; omega⟩
    · split at h
      · cases h
      · have ih := grp_ok h (by omega)
        exact ⟨ih.1, ih.2.1, ih.2.2.1, by omega, by omega, ih.2.2.2.2.2⟩
termination_by left
decreasing_by omega
def rdU (xs : List Int) (p e b : Nat) : ER (Int × Nat) :=
  match grp xs e b p b 0 with
  | .error r => .error r
  | .ok (lo, by_, l, q) => if l < 7 ∧ by_ ≥ 2 ^ l then .error ("number too large", q) else .ok (lo + by_ * 2 ^ (b - l), q + 1)
def tos (x : Int) : Int := if x ≥ 64 then x - 128 else x
def rdS (xs : List Int) (p e b : Nat) : ER (Int × Nat) :=
  match grp xs e b p b 0 with
  | .error r => .error r
  | .ok (lo, by_, l, q) => if tos by_ < -(2 ^ (l - 1)) ∨ tos by_ ≥ 2 ^ (l - 1) then .error ("number too large", q) else .ok (lo + tos by_ * 2 ^ (b - l), q + 1)
/-! ### promises -/
def Bys (xs : List Int) : Prop := ∀ x ∈ xs, 0 ≤ x ∧ x ≤ 255
theorem bys_nil : Bys [] := fun _ h => nomatch h
theorem Bys.at {xs : List Int} (h : Bys xs) (k : Nat) : 0 ≤ xs.getD k 0 ∧ xs.getD k 0 ≤ 255 := by
  rw [List.getD_eq_getElem?_getD]
  cases e : xs[k]? with
  | none => exact ⟨by decide, by decide⟩
  | some v => exact h v (List.mem_of_getElem? e)
/-- a DecodeError flies; all that was tracked stands -/
def Dec (cs : Cs) (H : Hp) (E : XK) (r : Str) (n : Nat) : Prop := ∀ d Hf, Same H Hf → Hf d = some (.xd [("place", .int n), ("reason", .str r)]) → E (.ref cs.C_DecodeError) (some d) Hf
theorem Dec.of {cs : Cs} {H H1 : Hp} {E : XK} {r : Str} {n : Nat} (h : Dec cs H E r n) (s : Same H H1) : Dec cs H1 E r n := fun d Hf s2 e => h d Hf (s.trans s2) e
/-- a new tuple of these -/
def Tup (H : Hp) (Q : VK) (vs : List V) : Prop := ∀ t Hf, Same H Hf → Hf t = some (.tup vs) → Q (.ref t) Hf
theorem Tup.of {H H1 : Hp} {Q : VK} {vs : List V} (h : Tup H Q vs) (s : Same H H1) : Tup H1 Q vs := fun t Hf s2 e => h t Hf (s.trans s2) e
/-- a new list of these ints -/
def Lst (H : Hp) (Q : VK) (ns : List Int) : Prop := ∀ p Hf, Same H Hf → H p = none → Hf p = some (.lst (ns.map V.int)) → Q (.ref p) Hf
def sp_write_unsigned (K : PySem.W.Frag) (cs : Cs) : Sp := fun vs H Q _ => ∃ n : Int, vs = [.int n] ∧ 0 ≤ n ∧ n < 128 ^ 20 ∧ Lst H Q (wu n)
def sp_write_signed (K : PySem.W.Frag) (cs : Cs) : Sp := fun vs H Q _ => ∃ n : Int, vs = [.int n] ∧ -(64 * 128 ^ 20) ≤ n ∧ n < 64 * 128 ^ 20 ∧ Lst H Q (ws n)
def sp_byte_at (K : PySem.W.Frag) (cs : Cs) : Sp := fun vs H Q E => ∃ (a : Addr) (xs : List Int) (p e : Nat), vs = [.ref a, .int p, .int e] ∧ SqL K H a (xs.map V.int) ∧ e ≤ xs.length ∧
  (p < e → Q (.int (xs.getD p 0)) H) ∧ (e ≤ p → Dec cs H E "unexpected end" e)
def sp_read_groups (K : PySem.W.Frag) (cs : Cs) : Sp := fun vs H Q E => ∃ (a : Addr) (xs : List Int) (p e b : Nat), vs = [.ref a, .int p, .int e, .int b] ∧ SqL K H a (xs.map V.int) ∧ Bys xs ∧ e ≤ xs.length ∧ 1 ≤ b ∧ b ≤ 64 ∧
  (∀ r, grp xs e b p b 0 = .error r → Dec cs H E r.1 r.2) ∧ (∀ r, grp xs e b p b 0 = .ok r → Tup H Q [.int r.1, .int r.2.1, .int r.2.2.1, .int r.2.2.2])
def spRd (f : List Int → Nat → Nat → Nat → ER (Int × Nat)) (K : PySem.W.Frag) (cs : Cs) : Sp := fun vs H Q E => ∃ (a : Addr) (xs : List Int) (p e b : Nat), vs = [.ref a, .int p, .int e, .int b] ∧ SqL K H a (xs.map V.int) ∧ Bys xs ∧ e ≤ xs.length ∧ 1 ≤ b ∧ b ≤ 64 ∧
  (∀ r, f xs p e b = .error r → Dec cs H E r.1 r.2) ∧ (∀ r, f xs p e b = .ok r → Tup H Q [.int r.1, .int r.2])
def sp_read_unsigned (K : PySem.W.Frag) (cs : Cs) : Sp := spRd rdU K cs
def sp_read_signed (K : PySem.W.Frag) (cs : Cs) : Sp := spRd rdS K cs
section
variable {P : Program} {w : World} {K : PySem.W.Frag} {mg : Str → Option Value} {base : Heap} {cs : Cs}
theorem c_byte_at (D : Def K mg "byte_at" s_byte_at ["data", "place", "end"]) (T : Tp w K mg cs)  : Cal P w K mg base (L2.CX P w) 3 "byte_at" (sp_byte_at K cs) := by
  refine D.okX sc_byte_at (fun vs H Q E h => ?_) (fun f cdv A outer s H vs Q E hr h => ?_)
  · obtain ⟨a, xs, p, e, rfl, _⟩ := h; rfl
  · obtain ⟨a, xs, p, e, rfl, hS, he, q1, q2⟩ := h
    refine ⟨_, (pss_cons (ps_if (pt_cmpR op_ge (pv 1) (pv 2) (by first | rfl | exact nomark _)) (pss_one (ps_raise rfl (takes_of rfl rfl rfl rfl) (pmk_oex T.e_DecodeError.T T.iC_DecodeError T.tI_DecodeError (in_DecodeError T) (hr.mono (by decide)) T.b_DecodeError .nil pass0 (by rfl) T.e_DecodeError.g (pa_cons pe_str (pa_cons (pv 2) pa_nil))))) pss_nil)
      (pss_one (ps_ret (pe_ix ix_list (pv 0) (pv 1) (fun _ _ => rfl))))), ?_⟩
    walk_at "go"
    refine ite2 (fun c => ?_) (fun c => ?_)
    · have c' : e ≤ p := by have := of_decide_eq_true c; omega
      walk_at "go"
      exact fly2 fun d Hf s1 e1 => q2 c' d Hf s1 e1
    · have c' : p < e := by have := of_decide_eq_false (Bool.eq_false_iff.mpr c); omega
      have hp : p < xs.length := by omega
      walk_at "go"
      exact q1 c'
theorem c_read_groups (D : Def K mg "read_groups" s_read_groups ["data", "place", "end", "bits"]) (T : Tp w K mg cs) (c_byte_at : Cal P w K mg base (L2.CX P w) 3 "byte_at" (sp_byte_at K cs)) : Cal P w K mg base (L2.CX P w) 4 "read_groups" (sp_read_groups K cs) := by
  refine D.okX sc_read_groups (fun vs H Q E h => ?_) (fun f cdv A outer s H vs Q E hr h => ?_)
  · obtain ⟨a, xs, p, e, b, rfl, _⟩ := h; rfl
  · obtain ⟨a, xs, p, e, b, rfl, hS, hB, he, hb1, hb2, q1, q2⟩ := h
    refine ⟨_, (pss_cons (ps_set (i := 4) sc_read_groups.nd rfl (by first | exact Or.inl rfl | exact Or.inr rfl) pe_int)
      (pss_cons (ps_set (i := 5) sc_read_groups.nd rfl (by first | exact Or.inl rfl | exact Or.inr rfl) (pv 3))
      (pss_cons (ps_set (i := 6) sc_read_groups.nd rfl (by first | exact Or.inl rfl | exact Or.inr rfl) (pe_cE c_byte_at hr (by decide) (passes_call (takes_of rfl rfl rfl rfl) (fun _ _ _ _ h => h)) (by rfl) (pa_cons (pv 0) (pa_cons (pv 1) (pa_cons (pv 2) pa_nil)))))
      (pss_cons (ps_while (passes_of rfl) (pt_cmpR op_ge (pv 6) pe_int (by first | rfl | exact nomark _)) (pss_cons (ps_if (pt_cmpR op_le (pv 5) pe_int (by first | rfl | exact nomark _)) (pss_one (ps_raise rfl (takes_of rfl rfl rfl rfl) (pmk_oex T.e_DecodeError.T T.iC_DecodeError T.tI_DecodeError (in_DecodeError T) (hr.mono (by decide)) T.b_DecodeError .nil pass0 (by rfl) T.e_DecodeError.g (pa_cons pe_str (pa_cons (pv 1) pa_nil))))) pss_nil)
      (pss_cons (ps_set (i := 4) sc_read_groups.nd rfl (by first | exact Or.inl rfl | exact Or.inr rfl) (pe_op op_add (pv 4) (pe_op op_shlS (pe_op op_sub (pv 6) pe_int) (pe_op op_sub (pv 3) (pv 5)))))
      (pss_cons (ps_set (i := 5) sc_read_groups.nd rfl (by first | exact Or.inl rfl | exact Or.inr rfl) (pe_op op_sub (pv 5) pe_int))
      (pss_cons (ps_set (i := 1) sc_read_groups.nd rfl (by first | exact Or.inl rfl | exact Or.inr rfl) (pe_op op_add (pv 1) pe_int))
      (pss_one (ps_set (i := 6) sc_read_groups.nd rfl (by first | exact Or.inl rfl | exact Or.inr rfl) (pe_cE c_byte_at hr (by decide) (passes_call (takes_of rfl rfl rfl rfl) (fun _ _ _ _ h => h)) (by rfl) (pa_cons (pv 0) (pa_cons (pv 1) (pa_cons (pv 2) pa_nil)))))))))))
      (pss_one (ps_ret (pe_tup (pa_cons (pv 4) (pa_cons (pv 6) (pa_cons (pv 5) (pa_cons (pv 1) pa_nil))))))))))), ?_⟩
    walk_at "go"
    refine ⟨a, xs, p, e, rfl, hS, he, fun hp => ?_, fun hp => ?_⟩
    · refine while_ev (fun σ H2 => H2 = H ∧ ∃ (low : Int) (left p2 : Nat), σ = [some (.ref a), some (.int p2), some (.int e), some (.int b), some (.int low), some (.int left), some (.int (xs.getD p2 0))] ∧ 1 ≤ left ∧ left ≤ b ∧ p2 < e ∧ grp xs e b p b 0 = grp xs e b p2 left low)
        (fun σ _ => match σ with | [_, _, _, _, _, some (.int l), _] => l.toNat | _ => 0) ⟨rfl, 0, b, p, rfl, hb1, Nat.le_refl _, hp, rfl⟩ ?_
      rintro _ _ ⟨rfl, low, left, p2, rfl, hl1, hl2, hp2, hg⟩
      have hby := hB.at p2
      refine ⟨decide (128 ≤ xs.getD p2 0), fun Q2 q2 => by walk_at "go"; exact q2, fun c => ?_, fun c => ?_⟩
      · have c' : 128 ≤ xs.getD p2 0 := of_decide_eq_true c
        walk_at "go"
        refine ite2 (fun d => ?_) (fun d => ?_)
        · have d' : left ≤ 7 := by have := of_decide_eq_true d; omega
          have ee : grp xs e b p b 0 = .error ("number too long", p2) := by
            rw [hg, grp, if_neg (by omega), if_neg (by omega), dif_pos d']
          walk_at "go"
          exact fly2 fun dd Hf s1 e1 => q1 _ ee dd Hf s1 e1
        · have d' : ¬ left ≤ 7 := by have := of_decide_eq_false (Bool.eq_false_iff.mpr d); omega
          have ee : grp xs e b p b 0 = grp xs e b (p2 + 1) (left - 7) (low + (xs.getD p2 0 - 128) * 2 ^ (b - left)) := by
            rw [hg, grp, if_neg (by omega), if_neg (by omega), dif_neg d']
          have en : ((b : Int) - (left : Int)).toNat = b - left := by omega
          walk_at "go"
          refine ⟨⟨nat_small (by omega), by omega, by omega⟩, ?_⟩
          walk_at "go"
          refine ⟨a, xs, p2 + 1, e, by rfl, hS, he, fun hp3 => ?_, fun hp3 => ?_⟩
          · refine ⟨⟨rfl, _, left - 7, p2 + 1, ?_, by omega, by omega, hp3, ee⟩, ?_⟩
            · rw [show ((left - 7 : Nat) : Int) = (left : Int) - 7 by omega]
              simp only [en]
              rfl
            · show ((left : Int) - 7).toNat < (left : Int).toNat
              omega
          · have e4 : grp xs e b p b 0 = .error ("unexpected end", e) := by
              rw [ee, grp, if_pos hp3]
            exact fun dd Hf s1 e1 => q1 _ e4 dd Hf s1 e1
      · have c' : ¬ 128 ≤ xs.getD p2 0 := of_decide_eq_false c
        have ee : grp xs e b p b 0 = .ok (low, xs.getD p2 0, left, p2) := by
          rw [hg, grp, if_neg (by omega), if_pos (by omega)]
        walk_at "go"
        try refine And.intro (show 4 ≤ sizeLine by decide) ?_
        intro t ht
        exact q2 _ ee t _ (Same.new ht) upd_same
    · have e4 : grp xs e b p b 0 = .error ("unexpected end", e) := by rw [grp, if_pos hp]
      exact fun dd Hf s1 e1 => q1 _ e4 dd Hf s1 e1
theorem c_read_unsigned (D : Def K mg "read_unsigned" s_read_unsigned ["data", "place", "end", "bits"]) (T : Tp w K mg cs) (c_read_groups : Cal P w K mg base (L2.CX P w) 4 "read_groups" (sp_read_groups K cs)) : Cal P w K mg base (L2.CX P w) 5 "read_unsigned" (sp_read_unsigned K cs) := by
  refine D.okX sc_read_unsigned (fun vs H Q E h => ?_) (fun f cdv A outer s H vs Q E hr h => ?_)
  · obtain ⟨a, xs, p, e, b, rfl, _⟩ := h; rfl
  · obtain ⟨a, xs, p, e, b, rfl, hS, hB, he, hb1, hb2, q1, q2⟩ := h
    refine ⟨_, (pss_cons (ps_asg (pe_cE c_read_groups hr (by decide) (passes_call (takes_of rfl rfl rfl rfl) (fun _ _ _ _ h => h)) (by rfl) (pa_cons (pv 0) (pa_cons (pv 1) (pa_cons (pv 2) (pa_cons (pv 3) pa_nil))))) (pg_tup (by rfl) (pgs_cons (pg_name (i := 4) sc_read_unsigned.nd rfl (by first | exact Or.inl rfl | exact Or.inr rfl)) (pgs_cons (pg_name (i := 5) sc_read_unsigned.nd rfl (by first | exact Or.inl rfl | exact Or.inr rfl)) (pgs_cons (pg_name (i := 6) sc_read_unsigned.nd rfl (by first | exact Or.inl rfl | exact Or.inr rfl)) (pgs_cons (pg_name (i := 1) sc_read_unsigned.nd rfl (by first | exact Or.inl rfl | exact Or.inr rfl)) pgs_nil))))))
      (C8.pss_cut (ps_if (PW.pt (pw_and (pt_cmpR op_lt (pv 6) pe_int (by first | rfl | exact nomark _)) (pw_and1 (pt_cmpR op_ge (pv 5) (pe_op op_shl1 pe_int (pv 6)) (by first | rfl | exact nomark _))))) (pss_one (ps_raise rfl (takes_of rfl rfl rfl rfl) (pmk_oex T.e_DecodeError.T T.iC_DecodeError T.tI_DecodeError (in_DecodeError T) (hr.mono (by decide)) T.b_DecodeError .nil pass0 (by rfl) T.e_DecodeError.g (pa_cons pe_str (pa_cons (pv 1) pa_nil))))) pss_nil)
      (pss_one (ps_ret (pe_tup (pa_cons (pe_op op_add (pv 4) (pe_op op_shlS (pv 5) (pe_op op_sub (pv 3) (pv 6)))) (pa_cons (pe_op op_add (pv 1) pe_int) pa_nil))))))), ?_⟩
    walk_at "go"
    refine ⟨a, xs, p, e, b, rfl, hS, hB, he, hb1, hb2, fun r hr => ?_, fun r hr => ?_⟩
    · exact q1 r (by unfold rdU; rw [hr])
    obtain ⟨lo, by_, l, p2⟩ := r
    obtain ⟨k1, k2, k3, k4, k5, k6⟩ := grp_ok hr hb1
    dsimp only at k1 k2 k3 k4 k5 k6
    have hby := hB.at p2
    rw [← k1] at hby
    intro t Hf s1 ht
    have hT : SqT K Hf t [.int lo, .int by_, .int l, .int p2] := SqT.of ht
    refine ⟨t, _, rfl, hT, rfl, ?_⟩
    walk_at "go"
    have el : ((l : Nat) : Int).toNat = l := Int.toNat_natCast l
    have eb : ((b : Int) - (l : Int)).toNat = b - l := by omega
    refine ⟨fun σ H2 => ¬ (l < 7 ∧ by_ ≥ 2 ^ l) ∧ Hf = H2 ∧ σ = [some (.ref a), some (.int p2), some (.int e), some (.int b), some (.int lo), some (.int by_), some (.int l)], ?_, ?_⟩
    · walk_at "go"
      refine ite2 (fun c => ?_) (fun c => ?_)
      · have c1 : (l : Int) < 7 := of_decide_eq_true c
        walk_at "go"
        simp only [el]
        refine ite2 (fun c => ?_) (fun c => ?_)
        · have c2 : by_ ≥ 2 ^ l := of_decide_eq_true c
          have ee : rdU xs p e b = .error ("number too large", p2) := by unfold rdU; rw [hr]; exact if_pos ⟨by omega, c2⟩
          walk_at "go"
          exact fly2 fun dd Hf2 s2 e2 => q1 _ ee dd Hf2 (s1.trans s2) e2
        · have c2 : ¬ by_ ≥ 2 ^ l := of_decide_eq_false (Bool.eq_false_iff.mpr c)
          exact ⟨fun z => c2 z.2, rfl, rfl⟩
      · have c1 : ¬ (l : Int) < 7 := of_decide_eq_false (Bool.eq_false_iff.mpr c)
        refine iteF ?_
        exact ⟨fun z => c1 (by omega), rfl, rfl⟩
    rintro _ _ ⟨c', rfl, rfl⟩
    have ee : rdU xs p e b = .ok (lo + by_ * 2 ^ (b - l), p2 + 1) := by unfold rdU; rw [hr]; exact if_neg c'
    walk_at "go"
    refine ⟨⟨nat_small (by omega), by omega, by omega⟩, ?_⟩
    walk_at "go"
    try refine And.intro (show 2 ≤ sizeLine by decide) ?_
    intro u hu
    simp only [eb]
    exact q2 _ ee u _ (s1.trans (Same.new hu)) upd_same
theorem c_read_signed (D : Def K mg "read_signed" s_read_signed ["data", "place", "end", "bits"]) (T : Tp w K mg cs) (c_read_groups : Cal P w K mg base (L2.CX P w) 4 "read_groups" (sp_read_groups K cs)) : Cal P w K mg base (L2.CX P w) 5 "read_signed" (sp_read_signed K cs) := by
  refine D.okX sc_read_signed (fun vs H Q E h => ?_) (fun f cdv A outer s H vs Q E hr h => ?_)
  · obtain ⟨a, xs, p, e, b, rfl, _⟩ := h; rfl
  · obtain ⟨a, xs, p, e, b, rfl, hS, hB, he, hb1, hb2, q1, q2⟩ := h
    refine ⟨_, (pss_cons (ps_asg (pe_cE c_read_groups hr (by decide) (passes_call (takes_of rfl rfl rfl rfl) (fun _ _ _ _ h => h)) (by rfl) (pa_cons (pv 0) (pa_cons (pv 1) (pa_cons (pv 2) (pa_cons (pv 3) pa_nil))))) (pg_tup (by rfl) (pgs_cons (pg_name (i := 4) sc_read_signed.nd rfl (by first | exact Or.inl rfl | exact Or.inr rfl)) (pgs_cons (pg_name (i := 5) sc_read_signed.nd rfl (by first | exact Or.inl rfl | exact Or.inr rfl)) (pgs_cons (pg_name (i := 6) sc_read_signed.nd rfl (by first | exact Or.inl rfl | exact Or.inr rfl)) (pgs_cons (pg_name (i := 1) sc_read_signed.nd rfl (by first | exact Or.inl rfl | exact Or.inr rfl)) pgs_nil))))))
      (C8.pss_cut (ps_if (pt_cmpR op_ge (pv 5) pe_int (by first | rfl | exact nomark _)) (pss_one (ps_set (i := 5) sc_read_signed.nd rfl (by first | exact Or.inl rfl | exact Or.inr rfl) (pe_op op_sub (pv 5) pe_int))) pss_nil)
      (pss_cons (ps_set (i := 7) sc_read_signed.nd rfl (by first | exact Or.inl rfl | exact Or.inr rfl) (pe_op op_shl1 pe_int (pe_op op_sub (pv 6) pe_int)))
      (C8.pss_cut (ps_if (PW.pt (pw_or (pt_cmpR op_lt (pv 5) (pe_un un_neg (pv 7)) (by first | rfl | exact nomark _)) (pw_or1 (pt_cmpR op_ge (pv 5) (pv 7) (by first | rfl | exact nomark _))))) (pss_one (ps_raise rfl (takes_of rfl rfl rfl rfl) (pmk_oex T.e_DecodeError.T T.iC_DecodeError T.tI_DecodeError (in_DecodeError T) (hr.mono (by decide)) T.b_DecodeError .nil pass0 (by rfl) T.e_DecodeError.g (pa_cons pe_str (pa_cons (pv 1) pa_nil))))) pss_nil)
      (pss_one (ps_ret (pe_tup (pa_cons (pe_op op_add (pv 4) (pe_op op_shlS (pv 5) (pe_op op_sub (pv 3) (pv 6)))) (pa_cons (pe_op op_add (pv 1) pe_int) pa_nil))))))))), ?_⟩
    walk_at "go"
    refine ⟨a, xs, p, e, b, rfl, hS, hB, he, hb1, hb2, fun r hr => ?_, fun r hr => ?_⟩
    · exact q1 r (by unfold rdS; rw [hr])
    obtain ⟨lo, by_, l, p2⟩ := r
    obtain ⟨k1, k2, k3, k4, k5, k6⟩ := grp_ok hr hb1
    dsimp only at k1 k2 k3 k4 k5 k6
    have hby := hB.at p2
    rw [← k1] at hby
    intro t Hf s1 ht
    have hT : SqT K Hf t [.int lo, .int by_, .int l, .int p2] := SqT.of ht
    refine ⟨t, _, rfl, hT, rfl, ?_⟩
    walk_at "go"
    have el : ((l : Int) - 1).toNat = l - 1 := by omega
    have eb : ((b : Int) - (l : Int)).toNat = b - l := by omega
    have htos : -64 ≤ tos by_ ∧ tos by_ ≤ 63 := by unfold tos; split <;> omega
    refine ⟨fun σ H2 => Hf = H2 ∧ σ = [some (.ref a), some (.int p2), some (.int e), some (.int b), some (.int lo), some (.int (tos by_)), some (.int l), none], ?_, ?_⟩
    · walk_at "go"
      refine ite2 (fun c => ?_) (fun c => ?_)
      · have c' : by_ ≥ 64 := of_decide_eq_true c
        walk_at "go"
        rw [show tos by_ = by_ - 128 from if_pos c']; rfl
      · have c' : ¬ by_ ≥ 64 := of_decide_eq_false (Bool.eq_false_iff.mpr c)
        rw [show tos by_ = by_ from if_neg c']
        exact ⟨rfl, rfl⟩
    rintro _ _ ⟨rfl, rfl⟩
    walk_at "go"
    simp only [el]
    refine ⟨fun σ H2 => ¬ (tos by_ < -(2 ^ (l - 1)) ∨ tos by_ ≥ 2 ^ (l - 1)) ∧ Hf = H2 ∧ σ = [some (.ref a), some (.int p2), some (.int e), some (.int b), some (.int lo), some (.int (tos by_)), some (.int l), some (.int (2 ^ (l - 1)))], ?_, ?_⟩
    · have bad : (tos by_ < -(2 ^ (l - 1)) ∨ tos by_ ≥ 2 ^ (l - 1)) → rdS xs p e b = .error ("number too large", p2) := fun c => by unfold rdS; rw [hr]; exact if_pos c
      walk_at "go"
      refine ite2 (fun c => ?_) (fun c => ?_)
      · have c1 : tos by_ < -(2 ^ (l - 1)) := of_decide_eq_true c
        walk_at "go"
        exact fly2 fun dd Hf2 s2 e2 => q1 _ (bad (.inl c1)) dd Hf2 (s1.trans s2) e2
      · have c1 : ¬ tos by_ < -(2 ^ (l - 1)) := of_decide_eq_false (Bool.eq_false_iff.mpr c)
        walk_at "go"
        refine ite2 (fun c => ?_) (fun c => ?_)
        · have c2 : tos by_ ≥ 2 ^ (l - 1) := of_decide_eq_true c
          walk_at "go"
          exact fly2 fun dd Hf2 s2 e2 => q1 _ (bad (.inr c2)) dd Hf2 (s1.trans s2) e2
        · have c2 : ¬ tos by_ ≥ 2 ^ (l - 1) := of_decide_eq_false (Bool.eq_false_iff.mpr c)
          exact ⟨fun z => z.elim c1 c2, rfl, rfl⟩
    rintro _ _ ⟨c', rfl, rfl⟩
    have ee : rdS xs p e b = .ok (lo + tos by_ * 2 ^ (b - l), p2 + 1) := by unfold rdS; rw [hr]; exact if_neg c'
    walk_at "go"
    refine ⟨⟨nat_small (by omega), by omega, by omega⟩, ?_⟩
    walk_at "go"
    try refine And.intro (show 2 ≤ sizeLine by decide) ?_
    intro u hu
    simp only [eb]
    exact q2 _ ee u _ (s1.trans (Same.new hu)) upd_same
end

def sp__law_is_integer (K : PySem.W.Frag) (cs : Cs) : Sp := fun vs H Q _ => ∃ n : Int, vs = [.int n] ∧ Q (.bl true) H
def sp__law_cell (K : PySem.W.Frag) (cs : Cs) : Sp := fun vs H Q _ => ∃ (a : Addr) (ns : List Int) (k : Nat), vs = [.ref a, .int k] ∧ SqL K H a (ns.map V.int) ∧ Q (.int (ns.getD k 0)) H
def fits (sg : Bool) (v : Int) (b : Nat) : Bool := if sg then decide (-(2 ^ (b - 1)) ≤ v) && decide (v < 2 ^ (b - 1)) else decide (v < 2 ^ b)
def lastV (sg : Bool) (g : Int) : Int := if sg then tos g else g
def sp__law_last (K : PySem.W.Frag) (cs : Cs) : Sp := fun vs H Q _ => ∃ (g : Int) (b : Nat) (sg : Bool), vs = [.int g, .int b, .bl sg] ∧ 1 ≤ b ∧ b ≤ 64 ∧ Tup H Q [.int (lastV sg g), .bl (fits sg (lastV sg g) b)]
def rd (sg : Bool) (xs : List Int) (p e b : Nat) : ER (Int × Nat) := if sg then rdS xs p e b else rdU xs p e b
def erV : ER (Int × Nat) → List V
  | .error (r, n) => [.str r, .int n]
  | .ok (v, p) => [.int v, .int p]
def spDue (K : PySem.W.Frag) (cs : Cs) : Sp := fun vs H Q _ => ∃ (a : Addr) (xs : List Int) (p e b : Nat) (sg : Bool), vs = [.ref a, .int p, .int e, .int b, .bl sg] ∧ SqL K H a (xs.map V.int) ∧ Bys xs ∧ e ≤ xs.length ∧ 1 ≤ b ∧ b ≤ 64 ∧ Tup H Q (erV (rd sg xs p e b))
def sp__law_due (K : PySem.W.Frag) (cs : Cs) : Sp := spDue K cs
def sp__law_told (K : PySem.W.Frag) (cs : Cs) : Sp := spDue K cs
def sp__law_data (K : PySem.W.Frag) (cs : Cs) : Sp := fun vs H Q _ => ∃ (a : Addr) (ns : List Int), vs = [.ref a] ∧ SqL K H a (ns.map V.int) ∧ ns.length ≤ 63 ∧ ∀ (xs : List Int), Bys xs → xs.length ≤ 63 → Lst H Q xs
def sp_lawK (K : PySem.W.Frag) : Sp := fun vs H Q _ => ∃ (a : Addr) (ns : List Int), vs = [.ref a] ∧ SqL K H a (ns.map V.int) ∧ ns.length ≤ 63 ∧ ∀ H', Q (.bl true) H'
abbrev sp_law (K : PySem.W.Frag) (_ : Cs) : Sp := sp_lawK K
theorem rd_end {sg : Bool} {xs : List Int} {p e b : Nat} {lo by_ : Int} {l q : Nat} (h : grp xs e b p b 0 = .ok (lo, by_, l, q)) (h1 : by_ < 128) (hl : 1 ≤ l) : rd sg xs p e b = if fits sg (lastV sg by_) l then .ok (lo + lastV sg by_ * 2 ^ (b - l), q + 1) else .error ("number too large", q) := by
  cases sg with
  | true =>
    show rdS xs p e b = _
    unfold rdS fits lastV
    rw [h]
    simp only [if_true]
    by_cases c1 : -(2 ^ (l - 1)) ≤ tos by_ <;> by_cases c2 : tos by_ < 2 ^ (l - 1)
    · rw [if_neg (by omega), decide_eq_true c1, decide_eq_true c2]; rfl
    · rw [if_pos (by omega), decide_eq_true c1, decide_eq_false c2]; rfl
    · rw [if_pos (by omega), decide_eq_false c1, decide_eq_true c2]; rfl
    · rw [if_pos (by omega), decide_eq_false c1, decide_eq_false c2]; rfl
  | false =>
    show rdU xs p e b = _
    unfold rdU fits lastV
    rw [h]
    simp only [Bool.false_eq_true, if_false]
    by_cases c : by_ < 2 ^ l
    · rw [if_neg (by omega), decide_eq_true c]; rfl
    · have : l < 7 := by
        rcases Nat.lt_or_ge l 7 with h | h
        · exact h
        · have : (2 : Int) ^ 7 ≤ 2 ^ l := by
            have := Nat.pow_le_pow_right (show 0 < 2 by decide) h
            exact_mod_cast this
          omega
      rw [if_pos (by omega), decide_eq_false c]; rfl
theorem rd_err {sg : Bool} {xs : List Int} {p e b : Nat} {r : Str × Nat} (h : grp xs e b p b 0 = .error r) : rd sg xs p e b = .error r := by
  cases sg with
  | true => show rdS xs p e b = _; unfold rdS; rw [h]
  | false => show rdU xs p e b = _; unfold rdU; rw [h]
theorem shaped_er : ∀ r : ER (Int × Nat), (∃ z n, r = .error (z, n) ∧ (z = "unexpected end" ∨ z = "number too long" ∨ z = "number too large")) ∨ (∃ v p, r = .ok (v, p)) → ∃ d, SeqAt.shaped d = true ∧ ∀ (K : PySem.W.Frag) (H : Hp) (t : Addr), SqT K H t (erV r) → Dp K H (.ref t) d := by
  intro r h
  rcases h with ⟨z, n, rfl, h⟩ | ⟨v, p, rfl⟩
  · refine ⟨.tuple [.str z, .int n], ?_, fun K H t h => .tup h (.cons (.str _) (.cons (.int _) .nil))⟩
    rcases h with rfl | rfl | rfl <;> (unfold SeqAt.shaped; simp [PyData.canLay0, PyData.canLayAll0, PyData.depth, PyData.depthAll]; decide +kernel)
  · refine ⟨.tuple [.int v, .int p], ?_, fun K H t h => .tup h (.cons (.int _) (.cons (.int _) .nil))⟩
    unfold SeqAt.shaped; simp [PyData.canLay0, PyData.canLayAll0, PyData.depth, PyData.depthAll]
theorem grp_err {xs : List Int} {e b : Nat} : ∀ {p left : Nat} {low : Int} {r : Str × Nat}, grp xs e b p left low = .error r → r.1 = "unexpected end" ∨ r.1 = "number too long" := by
  intro p left
  induction left using Nat.strongRecOn generalizing p with
  | ind left ih =>
    intro low r h
    rw [grp] at h
    split at h
    · cases h; exact .inl rfl
    · split at h
      · cases h
      · split at h
        · cases h; exact .inr rfl
        · exact ih _ (by omega) h
theorem rd_shape (sg : Bool) (xs : List Int) (p e b : Nat) (hb : 1 ≤ b) : (∃ z n, rd sg xs p e b = .error (z, n) ∧ (z = "unexpected end" ∨ z = "number too long" ∨ z = "number too large")) ∨ (∃ v q, rd sg xs p e b = .ok (v, q)) := by
  cases h : grp xs e b p b 0 with
  | error r =>
    refine .inl ⟨r.1, r.2, by rw [rd_err h], ?_⟩
    rcases grp_err h with h | h
    · exact .inl h
    · exact .inr (.inl h)
  | ok r =>
    obtain ⟨lo, by_, l, q⟩ := r
    obtain ⟨k1, k2, k3, _⟩ := grp_ok h hb
    rw [rd_end h k2 k3]
    split
    · exact .inr ⟨_, _, rfl⟩
    · exact .inl ⟨_, _, rfl, .inr (.inr rfl)⟩
section
variable {P : Program} {w : World} {K : PySem.W.Frag} {mg : Str → Option Value} {base : Heap} {cs : Cs}
theorem c__law_is_integer (D : Def K mg "_law_is_integer" s__law_is_integer ["actual"]) (T : Tp w K mg cs)  : Cal P w K mg base CX0 1 "_law_is_integer" (sp__law_is_integer K cs) := by
  refine D.ok sc__law_is_integer (fun vs H Q E h => ?_) (fun f cdv A outer s H vs Q E hr h => ?_)
  · obtain ⟨n, rfl, _⟩ := h; rfl
  · obtain ⟨n, rfl, q⟩ := h
    refine ⟨_, (pss_one (ps_ret (pe_and (pe_callB call_isi (by rfl) T.m_isinstance (by decide +kernel) (pa_cons (pv 0) (pa_cons (pe_bltn (v := .ty "int") (u := .type "int") (by rfl) T.m_int (by decide +kernel) rfl) pa_nil))) (pe_one (pe_not (pe_callB call_isi (by rfl) T.m_isinstance (by decide +kernel) (pa_cons (pv 0) (pa_cons (pe_bltn (v := .ty "bool") (u := .type "bool") (by rfl) T.m_bool (by decide +kernel) rfl) pa_nil)))))))), ?_⟩
    walk_at "go"
    exact q
theorem c__law_cell (D : Def K mg "_law_cell" s__law_cell ["script", "k"]) (T : Tp w K mg cs)  : Cal P w K mg base CX0 1 "_law_cell" (sp__law_cell K cs) := by
  refine D.ok sc__law_cell (fun vs H Q E h => ?_) (fun f cdv A outer s H vs Q E hr h => ?_)
  · obtain ⟨a, ns, k, rfl, _⟩ := h; rfl
  · obtain ⟨a, ns, k, rfl, hS, q⟩ := h
    refine ⟨_, (pss_cons (ps_if (pt_cmpR op_lt (pv 1) (pe_callB call_len_seq (by rfl) T.m_len PySem.boot_len (pa_cons (pv 0) pa_nil)) (by first | rfl | exact nomark _)) (pss_one (ps_ret (pe_callTy call_int1 (by rfl) T.m_int (by decide +kernel) (pa_cons (pe_ix ix_list (pv 0) (pv 1) (fun _ _ => rfl)) pa_nil)))) pss_nil)
      (pss_one (ps_ret pe_int))), ?_⟩
    walk_at "go"
    simp only [List.length_map]
    refine ite2 (fun c => ?_) (fun c => ?_)
    · have c' : (k : Int) < ns.length := of_decide_eq_true c
      walk_at "go"
      exact q
    · have c' : ¬ (k : Int) < ns.length := of_decide_eq_false (Bool.eq_false_iff.mpr c)
      rw [List.getD_eq_getElem?_getD, List.getElem?_eq_none (by omega)] at q
      exact q
theorem c__law_last (D : Def K mg "_law_last" s__law_last ["group", "bits", "with_sign"]) (T : Tp w K mg cs)  : Cal P w K mg base CX0 1 "_law_last" (sp__law_last K cs) := by
  refine D.ok sc__law_last (fun vs H Q E h => ?_) (fun f cdv A outer s H vs Q E hr h => ?_)
  · obtain ⟨g, b, sg, rfl, _⟩ := h; rfl
  · obtain ⟨g, b, sg, rfl, hb1, hb2, q⟩ := h
    refine ⟨_, (pss_cons (ps_set (i := 3) sc__law_last.nd rfl (by first | exact Or.inl rfl | exact Or.inr rfl) (pv 0))
      (C8.pss_cut (ps_if (PW.pt (pw_and (pt_val (pv 2)) (pw_and1 (pt_cmpR op_ge (pv 0) pe_int (by first | rfl | exact nomark _))))) (pss_one (ps_set (i := 3) sc__law_last.nd rfl (by first | exact Or.inl rfl | exact Or.inr rfl) (pe_op op_sub (pv 0) pe_int))) pss_nil)
      (pss_cons (ps_if (pt_val (pv 2)) (pss_one (ps_ret (pe_tup (pa_cons (pv 3) (pa_cons (pe_chain op_le op_lt (pe_un un_neg (pe_op op_shl1 pe_int (pe_op op_sub (pv 1) pe_int))) (pv 3) (pe_op op_shl1 pe_int (pe_op op_sub (pv 1) pe_int))) pa_nil))))) pss_nil)
      (pss_one (ps_ret (pe_tup (pa_cons (pv 3) (pa_cons (pe_cmpR op_lt (pv 3) (pe_op op_shl1 pe_int (pv 1)) (by first | rfl | exact nomark _)) pa_nil)))))))), ?_⟩
    have e1 : ((b : Int) - 1).toNat = b - 1 := by omega
    walk_at "go"
    refine ⟨fun σ H2 => H = H2 ∧ σ = [some (.int g), some (.int b), some (.bl sg), some (.int (lastV sg g))], ?_, ?_⟩
    · cases sg with
      | true =>
        walk_at "go"
        refine ite2 (fun c => ?_) (fun c => ?_)
        · have c' : g ≥ 64 := of_decide_eq_true c
          walk_at "go"
          rw [show lastV true g = g - 128 from if_pos c']; rfl
        · have c' : ¬ g ≥ 64 := of_decide_eq_false (Bool.eq_false_iff.mpr c)
          rw [show lastV true g = g from if_neg c']
          exact ⟨rfl, rfl⟩
      | false =>
        walk_at "go"
        rfl
    rintro _ _ ⟨rfl, rfl⟩
    cases sg with
    | true =>
      have hf : fits true (lastV true g) b = (decide (-(2 ^ (b - 1)) ≤ lastV true g) && decide (lastV true g < 2 ^ (b - 1))) := rfl
      rw [hf] at q
      walk_at "go"
      simp only [e1]
      refine ite2 (fun c => ?_) (fun c => ?_)
      · rw [c] at q
        walk_at "go"
        simp only [e1]
        intro t ht
        exact q t _ (Same.new ht) upd_same
      · rw [Bool.eq_false_iff.mpr c] at q
        walk_at "go"
        intro t ht
        exact q t _ (Same.new ht) upd_same
    | false =>
      have hf : fits false (lastV false g) b = decide (lastV false g < 2 ^ b) := rfl
      rw [hf] at q
      walk_at "go"
      simp only [Int.toNat_natCast]
      intro t ht
      exact q t _ (Same.new ht) upd_same
theorem c__law_told (D : Def K mg "_law_told" s__law_told ["data", "place", "end", "bits", "with_sign"]) (T : Tp w K mg cs) (c_read_unsigned : Cal P w K mg base (L2.CX P w) 5 "read_unsigned" (sp_read_unsigned K cs)) (c_read_signed : Cal P w K mg base (L2.CX P w) 5 "read_signed" (sp_read_signed K cs)) : Cal P w K mg base CX0 6 "_law_told" (sp__law_told K cs) := by
  refine D.ok sc__law_told (fun vs H Q E h => ?_) (fun f cdv A outer s H vs Q E hr h => ?_)
  · obtain ⟨a, xs, p, e, b, sg, rfl, _⟩ := h; rfl
  · obtain ⟨a, xs, p, e, b, sg, rfl, hS, hB, he, hb1, hb2, q⟩ := h
    refine ⟨_, (pss_one (ps_try_as (i := 5) (tb := _) (ts := _) (Wout := fun _ _ _ _ => False) rfl rfl sc__law_told.nd rfl rfl ⟨rfl, by decide, .inl T.g_HostError⟩ takes0 (fun W pn xe tk po => (pss_cons (ps_if (pt_val (pv 4)) (pss_one (ps_ret (pe_cS c_read_signed hr (by decide) (by rfl) (fun σ => passAt tk σ) (pa_cons (pv 0) (pa_cons (pv 1) (pa_cons (pv 2) (pa_cons (pv 3) pa_nil))))))) pss_nil)
      (pss_one (ps_ret (pe_cS c_read_unsigned hr (by decide) (by rfl) (fun σ => passAt tk σ) (pa_cons (pv 0) (pa_cons (pv 1) (pa_cons (pv 2) (pa_cons (pv 3) pa_nil))))))))) (fun a oe cls d pn hz hf => (pss_cons (ps_if (PW.pt (pw_and (pt_val (pe_callB (call_isX hz hf T.e_DecodeError) (by rfl) T.m_isinstance (by decide +kernel) (pa_cons (pv 5) (pa_cons (pe_glob (v := .ref cs.C_DecodeError) (by rfl) T.g_DecodeError rfl) pa_nil)))) (pw_and1 (pt_not (pt_val (pe_callB (call_isX hz hf T.e_DecodeError) (by rfl) T.m_isinstance (by decide +kernel) (pa_cons (pv 5) (pa_cons (pe_glob (v := .ref cs.C_LimitReached) (by rfl) T.g_LimitReached rfl) pa_nil)))))))) (pss_one (ps_ret (pe_tup (pa_cons (pe_xf T.e_DecodeError.xf T.no_DecodeError_reason hz hf (pv 5)) (pa_cons (pe_xf T.e_DecodeError.xf T.no_DecodeError_place hz hf (pv 5)) pa_nil))))) pss_nil)
      (pss_one (ps_ret pe_non)))))), ?_⟩
    cases sg with
    | true =>
      walk_at "go"
      refine ⟨a, xs, p, e, b, rfl, hS, hB, he, hb1, hb2, fun r hr => ?_, fun r hr => ?_⟩
      · rw [show rd true xs p e b = .error r from hr] at q
        intro d Hf s1 hd
        refine ⟨true, T.exm_DecodeError_HostError, fun _ ea hea => ?_, fun z => Bool.noConfusion z⟩
        walk_at "go"
        refine ⟨_, _, true, d, _, rfl, rfl, rfl, hd, rfl, fun u hu => hu, T.kit_DecodeError_DecodeError, ?_⟩
        walk_at "go"
        refine ⟨_, _, false, d, _, rfl, rfl, rfl, hd, rfl, fun u hu => hu, T.kit_DecodeError_LimitReached, ?_⟩
        walk_at "go"
        refine ⟨d, _, _, rfl, hd, rfl, ?_⟩
        walk_at "go"
        refine ⟨d, _, _, rfl, hd, rfl, ?_⟩
        walk_at "go"
        intro t ht
        exact q t _ (s1.trans (Same.new ht)) upd_same
      · rw [show rd true xs p e b = .ok r from hr] at q
        intro t Hf s1 ht
        exact q t _ s1 ht
    | false =>
      walk_at "go"
      refine ⟨a, xs, p, e, b, rfl, hS, hB, he, hb1, hb2, fun r hr => ?_, fun r hr => ?_⟩
      · rw [show rd false xs p e b = .error r from hr] at q
        intro d Hf s1 hd
        refine ⟨true, T.exm_DecodeError_HostError, fun _ ea hea => ?_, fun z => Bool.noConfusion z⟩
        walk_at "go"
        refine ⟨_, _, true, d, _, rfl, rfl, rfl, hd, rfl, fun u hu => hu, T.kit_DecodeError_DecodeError, ?_⟩
        walk_at "go"
        refine ⟨_, _, false, d, _, rfl, rfl, rfl, hd, rfl, fun u hu => hu, T.kit_DecodeError_LimitReached, ?_⟩
        walk_at "go"
        refine ⟨d, _, _, rfl, hd, rfl, ?_⟩
        walk_at "go"
        refine ⟨d, _, _, rfl, hd, rfl, ?_⟩
        walk_at "go"
        intro t ht
        exact q t _ (s1.trans (Same.new ht)) upd_same
      · rw [show rd false xs p e b = .ok r from hr] at q
        intro t Hf s1 ht
        exact q t _ s1 ht
theorem c__law_due (D : Def K mg "_law_due" s__law_due ["data", "place", "end", "bits", "with_sign"]) (T : Tp w K mg cs) (c__law_last : Cal P w K mg base CX0 1 "_law_last" (sp__law_last K cs)) : Cal P w K mg base CX0 2 "_law_due" (sp__law_due K cs) := by
  refine D.ok sc__law_due (fun vs H Q E h => ?_) (fun f cdv A outer s H vs Q E hr h => ?_)
  · obtain ⟨a, xs, p, e, b, sg, rfl, _⟩ := h; rfl
  · obtain ⟨a, xs, p, e, b, sg, rfl, hS, hB, he, hb1, hb2, q⟩ := h
    refine ⟨_, (pss_cons (ps_set (i := 5) sc__law_due.nd rfl (by first | exact Or.inl rfl | exact Or.inr rfl) pe_int)
      (pss_cons (ps_set (i := 6) sc__law_due.nd rfl (by first | exact Or.inl rfl | exact Or.inr rfl) pe_int)
      (pss_cons (ps_for PassesOwn.never rfl (pi_range1 (by rfl) T.m_range (pa_cons pe_int pa_nil)) (pg_name (i := 7) sc__law_due.nd rfl (by first | exact Or.inl rfl | exact Or.inr rfl)) (pss_cons (ps_if (pt_cmpR op_ge (pe_op op_add (pv 1) (pv 7)) (pv 2) (by first | rfl | exact nomark _)) (pss_one (ps_ret (pe_tup (pa_cons pe_str (pa_cons (pv 2) pa_nil))))) pss_nil)
      (pss_cons (ps_set (i := 8) sc__law_due.nd rfl (by first | exact Or.inl rfl | exact Or.inr rfl) (pe_ix ix_list (pv 0) (pe_op op_add (pv 1) (pv 7)) (fun _ _ => rfl)))
      (pss_cons (ps_if (pt_cmpR op_lt (pv 8) pe_int (by first | rfl | exact nomark _)) (pss_cons (ps_asg (pe_c c__law_last hr (by decide) (by rfl) (pa_cons (pv 8) (pa_cons (pv 3) (pa_cons (pv 4) pa_nil)))) (pg_tup (by rfl) (pgs_cons (pg_name (i := 9) sc__law_due.nd rfl (by first | exact Or.inl rfl | exact Or.inr rfl)) (pgs_cons (pg_name (i := 10) sc__law_due.nd rfl (by first | exact Or.inl rfl | exact Or.inr rfl)) pgs_nil))))
      (pss_cons (ps_if (pt_not (pt_val (pv 10))) (pss_one (ps_ret (pe_tup (pa_cons pe_str (pa_cons (pe_op op_add (pv 1) (pv 7)) pa_nil))))) pss_nil)
      (pss_one (ps_ret (pe_tup (pa_cons (pe_op op_add (pv 5) (pe_op op_mul (pv 9) (pv 6))) (pa_cons (pe_op op_add (pe_op op_add (pv 1) (pv 7)) pe_int) pa_nil))))))) pss_nil)
      (pss_cons (ps_if (pt_cmpR op_le (pv 3) pe_int (by first | rfl | exact nomark _)) (pss_one (ps_ret (pe_tup (pa_cons pe_str (pa_cons (pe_op op_add (pv 1) (pv 7)) pa_nil))))) pss_nil)
      (pss_cons (ps_set (i := 5) sc__law_due.nd rfl (by first | exact Or.inl rfl | exact Or.inr rfl) (pe_op op_add (pv 5) (pe_op op_mul (pe_op op_sub (pv 8) pe_int) (pv 6))))
      (pss_cons (ps_set (i := 6) sc__law_due.nd rfl (by first | exact Or.inl rfl | exact Or.inr rfl) (pe_op op_mul (pv 6) pe_int))
      (pss_one (ps_set (i := 3) sc__law_due.nd rfl (by first | exact Or.inl rfl | exact Or.inr rfl) (pe_op op_sub (pv 3) pe_int))))))))))
      (pss_one (ps_ret pe_non))))), ?_⟩
    walk_at "go"
    refine for_range (lo := 0) (n := 11) (D := { nx := tRet (tC .non) { nx := fun x H' => Q V.non H', rt := Q }, rt := Q })
      (fun i σ H2 => ∃ (low : Int) (left : Nat) (o8 o9 o10 o11 : Option V), σ = [some (.ref a), some (.int p), some (.int e), some (.int left), some (.bl sg), some (.int low), some (.int (2 ^ (7 * i))), o8, o9, o10, o11] ∧ 1 ≤ left ∧ left + 7 * i = b ∧ grp xs e b p b 0 = grp xs e b (p + i) left low ∧ Same H H2)
      ⟨0, b, _, _, _, _, rfl, hb1, rfl, rfl, Same.refl _⟩ ?_ ?_
    · rintro i _ H2 hi ⟨low, left, o8, o9, o10, o11, rfl, hl1, hl2, hg, s2⟩
      have hS2 := s2.seq hS
      have hby := hB.at (p + i)
      have epi : (p : Int) + (0 + (i : Int)) = ((p + i : Nat) : Int) := by omega
      rw [Int.zero_add]
      have epi2 : (p : Int) + (i : Int) = ((p + i : Nat) : Int) := by omega
      walk_at "go"
      simp only [epi2]
      refine ite2 (fun c => ?_) (fun c => ?_)
      · have c' : e ≤ p + i := by have := of_decide_eq_true c; omega
        have ee : grp xs e b p b 0 = .error ("unexpected end", e) := by rw [hg, grp, if_pos c']
        rw [rd_err ee] at q
        walk_at "go"
        intro t ht
        exact q t _ (s2.trans (Same.new ht)) upd_same
      have c' : ¬ e ≤ p + i := by have := of_decide_eq_false (Bool.eq_false_iff.mpr c); omega
      have hpi : p + i < xs.length := by omega
      walk_at "go"
      refine ite2 (fun c1 => ?_) (fun c1 => ?_)
      · have c2 : xs.getD (p + i) 0 < 128 := of_decide_eq_true c1
        have ee : grp xs e b p b 0 = .ok (low, xs.getD (p + i) 0, left, p + i) := by rw [hg, grp, if_neg (by omega), if_pos c2]
        rw [rd_end ee c2 hl1] at q
        walk_at "go"
        refine ⟨_, left, sg, rfl, hl1, by omega, fun t H3 s3 ht => ?_⟩
        have hT : SqT K H3 t [.int (lastV sg (xs.getD (p + i) 0)), .bl (fits sg (lastV sg (xs.getD (p + i) 0)) left)] := SqT.of ht
        refine ⟨t, _, rfl, hT, rfl, ?_⟩
        generalize hfit : fits sg (lastV sg (xs.getD (p + i) 0)) left = ft at q ht hT ⊢
        walk_at "go"
        cases ft with
        | false =>
          walk_at "go"
          intro u hu
          exact q u _ (s2.trans (s3.trans (Same.new hu))) upd_same
        | true =>
          have ew : (2 : Int) ^ (7 * i) = 2 ^ (b - left) := by congr 1; omega
          have hw : (2 : Int) ^ (7 * i) < 18446744073709551616 := by
            have h := Int.ofNat_lt.mpr (Nat.pow_lt_pow_right (show 1 < 2 by decide) (show 7 * i < 64 by omega))
            rw [PySem.W.kbt_cast, PySem.W.kbt_cast] at h
            exact h
          have hw0 : (0 : Int) < 2 ^ (7 * i) := pow_pos2 _
          walk_at "go"
          intro u hu
          refine q u _ (s2.trans (s3.trans (Same.new hu))) ?_
          rw [upd_same, ← ew]; rfl
      have c2 : ¬ xs.getD (p + i) 0 < 128 := of_decide_eq_false (Bool.eq_false_iff.mpr c1)
      walk_at "go"
      refine ite2 (fun c3 => ?_) (fun c3 => ?_)
      · have c4 : left ≤ 7 := by have := of_decide_eq_true c3; omega
        have ee : grp xs e b p b 0 = .error ("number too long", p + i) := by rw [hg, grp, if_neg (by omega), if_neg c2, dif_pos c4]
        rw [rd_err ee] at q
        walk_at "go"
        intro t ht
        exact q t _ (s2.trans (Same.new ht)) upd_same
      have c4 : ¬ left ≤ 7 := by have := of_decide_eq_false (Bool.eq_false_iff.mpr c3); omega
      have ee : grp xs e b p b 0 = grp xs e b (p + i + 1) (left - 7) (low + (xs.getD (p + i) 0 - 128) * 2 ^ (b - left)) := by rw [hg, grp, if_neg (by omega), if_neg c2, dif_neg c4]
      have ew : (2 : Int) ^ (7 * i) = 2 ^ (b - left) := by congr 1; omega
      walk_at "go"
      have e7 : ((left - 7 : Nat) : Int) = (left : Int) - 7 := by omega
      have e8 : (2 : Int) ^ (7 * (i + 1)) = 2 ^ (7 * i) * 128 := by rw [show 7 * (i + 1) = 7 * i + 7 by omega, Int.pow_add]; rfl
      refine ⟨low + (xs.getD (p + i) 0 - 128) * 2 ^ (b - left), left - 7, some (.int i), some (.int (xs.getD (p + i) 0)), o10, o11, ?_, by omega, by omega, ee, s2⟩
      rw [e7, e8, ← ew]
      rfl
    · rintro _ H2 ⟨low, left, o8, o9, o10, o11, rfl, hl1, hl2, _⟩
      omega
theorem c__law_data (D : Def K mg "_law_data" s__law_data ["script"]) (T : Tp w K mg cs) (c__law_cell : Cal P w K mg base CX0 1 "_law_cell" (sp__law_cell K cs)) : Cal P w K mg base CX0 2 "_law_data" (sp__law_data K cs) := by
  refine D.ok sc__law_data (fun vs H Q E h => ?_) (fun f cdv A outer s H vs Q E hr h => ?_)
  · obtain ⟨a, ns, rfl, _⟩ := h; rfl
  · obtain ⟨a, ns, rfl, hS, hlen, q⟩ := h
    refine ⟨_, (pss_cons (ps_set (i := 1) sc__law_data.nd rfl (by first | exact Or.inl rfl | exact Or.inr rfl) (pe_c c__law_cell hr (by decide) (by rfl) (pa_cons (pv 0) (pa_cons pe_int pa_nil))))
      (pss_cons (ps_set (i := 2) sc__law_data.nd rfl (by first | exact Or.inl rfl | exact Or.inr rfl) (pe_lst pa_nil))
      (pss_cons (ps_if (pt_cmpR op_ge (pv 1) (pe_op op_pow pe_int pe_int) (by first | rfl | exact nomark _)) (pss_cons (ps_for PassesOwn.never rfl (pi_range1 (by rfl) T.m_range (pa_cons pe_int pa_nil)) (pg_name (i := 4) sc__law_data.nd rfl (by first | exact Or.inl rfl | exact Or.inr rfl)) (pss_one (ps_if (pt_cmpR op_gt (pv 1) pe_int (by first | rfl | exact nomark _)) (pss_cons (ps_expr (pe_bm PySem.F.plainAttrs_list PySem.F.slot_list_append PySem.F.type_list_append mt_append (pv 2) (pa_cons (pe_op op_mod (pe_callTy call_int1 (by rfl) T.m_int (by decide +kernel) (pa_cons (pv 1) pa_nil)) pe_int) pa_nil)))
      (pss_one (ps_set (i := 1) sc__law_data.nd rfl (by first | exact Or.inl rfl | exact Or.inr rfl) (pe_op op_fdiv (pv 1) pe_int)))) pss_nil)))
      (pss_one (ps_ret (pv 2)))) pss_nil)
      (pss_cons (ps_for PassesOwn.never rfl (pi_list (pe_slice sl_list (pv 0) po_none (po_some pe_int))) (pg_name (i := 3) sc__law_data.nd rfl (by first | exact Or.inl rfl | exact Or.inr rfl)) (pss_cons (ps_set (i := 5) sc__law_data.nd rfl (by first | exact Or.inl rfl | exact Or.inr rfl) (pe_op op_mod (pe_callTy call_int1 (by rfl) T.m_int (by decide +kernel) (pa_cons (pv 3) pa_nil)) pe_int))
      (pss_cons (ps_if (pt_cmpR op_gt (pe_op op_mod (pe_op op_fdiv (pe_callTy call_int1 (by rfl) T.m_int (by decide +kernel) (pa_cons (pv 3) pa_nil)) pe_int) pe_int) pe_int (by first | rfl | exact nomark _)) (pss_one (ps_set (i := 5) sc__law_data.nd rfl (by first | exact Or.inl rfl | exact Or.inr rfl) (pe_op op_add (pv 5) pe_int))) pss_nil)
      (pss_one (ps_expr (pe_bm PySem.F.plainAttrs_list PySem.F.slot_list_append PySem.F.type_list_append mt_append (pv 2) (pa_cons (pv 5) pa_nil)))))))
      (pss_one (ps_ret (pv 2))))))), ?_⟩
    walk_at "go"
    refine ⟨a, ns, 0, rfl, hS, ?_⟩
    walk_at "go"
    intro p hp
    walk_at "go"
    refine ite2 (fun c => ?_) (fun c => ?_)
    · walk_at "go"
      refine for_range (lo := 0) (n := 20) (D := { nx := tRet (tVar 2) { nx := tSeq _ _ _, rt := Q }, rt := Q }) (fun i σ H2 => ∃ (f : Int) (acc : List Int) (o : Option V), σ = [some (.ref a), some (.int f), some (.ref p), none, o, none] ∧ Bys acc ∧ acc.length ≤ i ∧ Same H H2 ∧ H2 p = some (.lst (acc.map V.int)))
        ⟨_, [], _, rfl, bys_nil, Nat.le_refl _, Same.new hp, upd_same⟩ ?_ ?_
      · rintro i _ H2 hi ⟨f, acc, o, rfl, hB, hl, s2, hd⟩
        walk_at "go"
        refine ite2 (fun c => ?_) (fun c => ?_)
        · refine ⟨_, rfl, .inl ⟨rfl, _, SqL.of hd⟩, ?_⟩
          walk_at "go"
          refine ⟨_, _, _, rfl, rfl, hd, (by rw [List.length_map]; exact small64' (by omega)), ?_⟩
          walk_at "go"
          refine ⟨_, acc ++ [f % 256], _, rfl, fun x hx => ?_, by rw [List.length_append]; show acc.length + 1 ≤ i + 1; omega, fun b o e => ?_, ?_⟩
          · rcases List.mem_append.mp hx with hx | hx
            · exact hB x hx
            · rw [List.mem_singleton] at hx; omega
          · rw [upd_ne (ne_of_none e hp)]; exact s2 _ _ e
          · rw [upd_same, List.map_append]; rfl
        · exact ⟨_, acc, _, rfl, hB, by omega, s2, hd⟩
      · rintro _ H2 ⟨f, acc, o, rfl, hB, hl, s2, hd⟩
        exact ⟨_, rfl, q acc hB (by omega) p H2 s2 hp hd⟩
    · refine ⟨_, rfl, ?_⟩
      walk_at "go"
      refine ⟨a, _, rfl, (Same.new hp).seq hS, fun p2 hp2 => ?_⟩
      rw [show ((63 : Int)) = ((63 : Nat) : Int) from rfl, cut_to, ← List.map_take]
      have hlt : (ns.take 63).length ≤ 63 := by rw [List.length_take]; omega
      have hpp : p ≠ p2 := fun z => by rw [← z, upd_same] at hp2; cases hp2
      refine ⟨p2, rfl, ⟨_, SqL.new⟩, for_list (K := K) (a := p2) (xs := (ns.take 63).map V.int) (D := { nx := tRet (tVar 2) { nx := fun x H' => Q V.non H', rt := Q }, rt := Q })
        (fun i σ H2 => ∃ (acc : List Int) (o3 o5 : Option V), σ = [some (.ref a), some (.int (ns.getD 0 0)), some (.ref p), o3, none, o5] ∧ Bys acc ∧ acc.length ≤ i ∧ Same H H2 ∧ H2 p = some (.lst (acc.map V.int)) ∧ H2 p2 = some (.lst ((ns.take 63).map V.int)))
        ⟨[], _, _, rfl, bys_nil, Nat.le_refl _, (Same.new hp).trans (Same.new hp2), by rw [upd_ne hpp, upd_same]; rfl, upd_same⟩ (fun i σ H2 _ h => by obtain ⟨acc, o3, o5, _, _, _, _, _, h⟩ := h; exact SqL.of h) ?_ ?_⟩
      · rintro i x _ H2 hi ⟨acc, o3, o5, rfl, hB, hl, s2, hd, hd2⟩
        obtain ⟨v, _, rfl⟩ := List.mem_map.mp (List.mem_of_getElem? hi)
        have hi63 : i < 63 := by have := (List.getElem?_eq_some_iff.mp hi).1; rw [List.length_map] at this; omega
        have put : ∀ b : Int, 0 ≤ b → b ≤ 255 → ∃ (acc2 : List Int) (o3 o5 : Option V), [some (V.ref a), some (V.int (ns.getD 0 0)), some (V.ref p), some (V.int v), none, some (V.int b)] = [some (V.ref a), some (V.int (ns.getD 0 0)), some (V.ref p), o3, none, o5] ∧ Bys acc2 ∧ acc2.length ≤ i + 1 ∧ Same H (upd H2 p (.lst (acc.map V.int ++ [V.int b]))) ∧ (upd H2 p (.lst (acc.map V.int ++ [V.int b]))) p = some (.lst (acc2.map V.int)) ∧ (upd H2 p (.lst (acc.map V.int ++ [V.int b]))) p2 = some (.lst ((ns.take 63).map V.int)) := fun b h0 h1 => by
          refine ⟨acc ++ [b], _, _, rfl, fun x hx => ?_, by rw [List.length_append]; show acc.length + 1 ≤ i + 1; omega, fun b o e => ?_, ?_, ?_⟩
          · rcases List.mem_append.mp hx with hx | hx
            · exact hB x hx
            · rw [List.mem_singleton] at hx; omega
          · rw [upd_ne (ne_of_none e hp)]; exact s2 _ _ e
          · rw [upd_same, List.map_append]; rfl
          · rw [upd_ne hpp.symm]; exact hd2
        walk_at "go"
        refine ite2 (fun c => ?_) (fun c => ?_)
        · walk_at "go"
          refine ⟨.inl ⟨rfl, _, SqL.of hd⟩, ?_⟩
          walk_at "go"
          refine ⟨_, _, _, rfl, rfl, hd, (by rw [List.length_map]; exact small64' (by omega)), ?_⟩
          exact put _ (by omega) (by omega)
        · refine ⟨_, rfl, .inl ⟨rfl, _, SqL.of hd⟩, ?_⟩
          walk_at "go"
          refine ⟨_, _, _, rfl, rfl, hd, (by rw [List.length_map]; exact small64' (by omega)), ?_⟩
          exact put _ (by omega) (by omega)
      · rintro _ H2 ⟨acc, o3, o5, rfl, hB, hl, s2, hd, hd2⟩
        rw [List.length_map] at hl
        exact ⟨_, rfl, q acc hB (by omega) p H2 s2 hp hd⟩
theorem c_law {f : Addr} {fd : FuncData} (D : L2.Fun K "law" "law" s_law f fd) (T : Tp w K mg cs) (c__law_data : Cal P w K mg base CX0 2 "_law_data" (sp__law_data K cs)) (c__law_cell : Cal P w K mg base CX0 1 "_law_cell" (sp__law_cell K cs)) (c__law_due : Cal P w K mg base CX0 2 "_law_due" (sp__law_due K cs)) (c__law_told : Cal P w K mg base CX0 6 "_law_told" (sp__law_told K cs)) (c__law_is_integer : Cal P w K mg base CX0 1 "_law_is_integer" (sp__law_is_integer K cs)) : FnOk P w K mg base CX0 7 f fd ["script"] (sp_law K cs) := by
  refine D.ok sc_law (fun vs H Q E h => ?_) (fun cdv A outer s H vs Q E hr h => ?_)
  · obtain ⟨a, ns, rfl, _⟩ := h; rfl
  · obtain ⟨a, ns, rfl, hS, hlen, q⟩ := h
    refine ⟨_, (pss_cons (ps_set (i := 1) sc_law.nd rfl (by first | exact Or.inl rfl | exact Or.inr rfl) (pe_c c__law_data hr (by decide) (by rfl) (pa_cons (pv 0) pa_nil)))
      (pss_cons (ps_set (i := 2) sc_law.nd rfl (by first | exact Or.inl rfl | exact Or.inr rfl) (pe_op op_add pe_int (pe_op op_mod (pe_c c__law_cell hr (by decide) (by rfl) (pa_cons (pv 0) (pa_cons pe_int pa_nil))) pe_int)))
      (pss_cons (ps_for PassesOwn.never rfl (pi_range1 (by rfl) T.m_range (pa_cons (pe_op op_add (pe_callB call_len_seq (by rfl) T.m_len PySem.boot_len (pa_cons (pv 1) pa_nil)) pe_int) pa_nil)) (pg_name (i := 3) sc_law.nd rfl (by first | exact Or.inl rfl | exact Or.inr rfl)) (pss_cons (ps_set (i := 4) sc_law.nd rfl (by first | exact Or.inl rfl | exact Or.inr rfl) (pe_op op_add (pv 3) (pe_op op_mod (pe_callTy call_int1 (by rfl) T.m_int (by decide +kernel) (pa_cons (pe_op op_add (pe_c c__law_cell hr (by decide) (by rfl) (pa_cons (pv 0) (pa_cons pe_int pa_nil))) (pv 3)) pa_nil)) (pe_op op_add (pe_op op_sub (pe_callB call_len_seq (by rfl) T.m_len PySem.boot_len (pa_cons (pv 1) pa_nil)) (pv 3)) pe_int))))
      (pss_one (ps_for PassesOwn.never rfl (pi_list (pe_lst (pa_cons (pv 2) (pa_cons pe_int (pa_cons pe_int pa_nil))))) (pg_name (i := 5) sc_law.nd rfl (by first | exact Or.inl rfl | exact Or.inr rfl)) (pss_one (ps_for PassesOwn.never rfl (pi_list (pe_lst (pa_cons pe_bl (pa_cons pe_bl pa_nil)))) (pg_name (i := 6) sc_law.nd rfl (by first | exact Or.inl rfl | exact Or.inr rfl)) (pss_cons (ps_set (i := 7) sc_law.nd rfl (by first | exact Or.inl rfl | exact Or.inr rfl) (pe_callTy call_list_of (by rfl) T.m_list (by decide +kernel) (pa_cons (pv 1) pa_nil)))
      (pss_cons (ps_set (i := 8) sc_law.nd rfl (by first | exact Or.inl rfl | exact Or.inr rfl) (pe_c c__law_due hr (by decide) (by rfl) (pa_cons (pv 1) (pa_cons (pv 3) (pa_cons (pv 4) (pa_cons (pv 5) (pa_cons (pv 6) pa_nil)))))))
      (pss_cons (ps_set (i := 9) sc_law.nd rfl (by first | exact Or.inl rfl | exact Or.inr rfl) (pe_c c__law_told hr (by decide) (by rfl) (pa_cons (pv 7) (pa_cons (pv 3) (pa_cons (pv 4) (pa_cons (pv 5) (pa_cons (pv 6) pa_nil)))))))
      (pss_cons (ps_if (PW.pt (pw_or (pt_not (pt_val (pe_callB call_isi (by rfl) T.m_isinstance (by decide +kernel) (pa_cons (pv 9) (pa_cons (pe_bltn (v := .ty "tuple") (u := .type "tuple") (by rfl) T.m_tuple (by decide +kernel) rfl) pa_nil))))) (pw_or (pt_cmpR op_ne (pe_callB call_len_seq (by rfl) T.m_len PySem.boot_len (pa_cons (pv 9) pa_nil)) pe_int (by first | rfl | exact nomark _)) (pw_or1 (pt_cmpR (op_neD (hu64 hr)) (pv 7) (pv 1) (by first | rfl | exact nomark _)))))) (pss_one (ps_ret pe_bl)) pss_nil)
      (pss_cons (ps_if (PW.pt (pw_or (pt_val (pe_callB call_isi (by rfl) T.m_isinstance (by decide +kernel) (pa_cons (pe_ix ix_tup (pv 9) pe_int (fun _ _ => rfl)) (pa_cons (pe_bltn (v := .ty "bool") (u := .type "bool") (by rfl) T.m_bool (by decide +kernel) rfl) pa_nil)))) (pw_or1 (pt_not (pt_val (pe_c c__law_is_integer hr (by decide) (by rfl) (pa_cons (pe_ix ix_tup (pv 9) pe_int (fun _ _ => rfl)) pa_nil))))))) (pss_one (ps_ret pe_bl)) pss_nil)
      (pss_one (ps_if (pt_cmpR (op_neD (hu64 hr)) (pv 9) (pv 8) (by first | rfl | exact nomark _)) (pss_one (ps_ret pe_bl)) pss_nil)))))))))))))
      (pss_one (ps_ret pe_bl))))), ?_⟩
    walk_at "go"
    refine ⟨a, ns, rfl, hS, hlen, fun xs hB hxl p H1 s1 hp0 hp => ?_⟩
    have hS1 := s1.seq hS
    walk_at "go"
    refine ⟨a, ns, 1, rfl, hS1, ?_⟩
    walk_at "go"
    obtain ⟨b, eb, hb1, hb2⟩ : ∃ b : Nat, 1 + ns.getD 1 0 % 64 = (b : Int) ∧ 1 ≤ b ∧ b ≤ 64 := ⟨(1 + ns.getD 1 0 % 64).toNat, by omega, by omega, by omega⟩
    simp only [eb]
    have hSp : SqL K H1 p (xs.map V.int) := SqL.of hp
    have hml : (xs.map V.int).length = xs.length := List.length_map _
    refine ⟨p, _, rfl, .inl hSp, _, _, rfl, rfl, _, rfl, by omega, by omega, ?_⟩
    refine for_range (lo := 0) (n := (xs.map V.int).length + 1) (D := { nx := tRet (tC (V.bl true)) { nx := fun x H' => Q V.non H', rt := Q }, rt := Q }) (fun i σ H2 => Same H1 H2 ∧ ∃ o3 o4 o5 o6 o7 o8 o9, σ = [some (.ref a), some (.ref p), some (.int b), o3, o4, o5, o6, o7, o8, o9]) ⟨Same.refl _, _, _, _, _, _, _, _, rfl⟩ ?_ ?_
    · rintro i _ H2 hi ⟨s2, o3, o4, o5, o6, o7, o8, o9, rfl⟩
      have hi' : i ≤ xs.length := by omega
      rw [Int.zero_add]
      have hS2 := s2.seq hS1
      have hp2 := s2 _ _ hp
      have hSp2 : SqL K H2 p (xs.map V.int) := SqL.of hp2
      walk_at "go"
      refine ⟨a, ns, 2, rfl, hS2, ?_⟩
      walk_at "go"
      obtain ⟨e, ee, he⟩ : ∃ e : Nat, (i : Int) + (ns.getD 2 0 + (i : Int)) % (((xs.map V.int).length : Int) - (i : Int) + 1) = (e : Int) ∧ e ≤ xs.length := by
        have m0 : 0 ≤ (ns.getD 2 0 + (i : Int)) % (((xs.map V.int).length : Int) - (i : Int) + 1) := Int.emod_nonneg _ (by omega)
        have m1 : (ns.getD 2 0 + (i : Int)) % (((xs.map V.int).length : Int) - (i : Int) + 1) < ((xs.map V.int).length : Int) - (i : Int) + 1 := Int.emod_lt_of_pos _ (by omega)
        exact ⟨((i : Int) + (ns.getD 2 0 + (i : Int)) % (((xs.map V.int).length : Int) - (i : Int) + 1)).toNat, by omega, by omega⟩
      simp only [ee]
      intro p3 hp3
      have hl3 : (upd H2 p3 (.lst [.int b, .int 32, .int 64])) p3 = some (.lst [.int b, .int 32, .int 64]) := upd_same
      have s3 := s2.trans (Same.new (o := .lst [.int b, .int 32, .int 64]) hp3)
      generalize upd H2 p3 (.lst [.int b, .int 32, .int 64]) = H3 at s3 hl3 ⊢
      refine ⟨p3, rfl, ⟨_, SqL.of hl3⟩, for_listD (K := K) (a := p3) (xs := [.int b, .int 32, .int 64]) (fun j σ H4 => Same H3 H4 ∧ ∃ o5 o6 o7 o8 o9, σ = [some (.ref a), some (.ref p), some (.int b), some (.int i), some (.int e), o5, o6, o7, o8, o9])
        ⟨Same.refl _, _, _, _, _, _, rfl⟩ (fun j σ H4 _ h => h.1.seq (SqL.of hl3)) ?_ ?_⟩
      · rintro j x _ H4 hj ⟨s4, o5, o6, o7, o8, o9, rfl⟩
        obtain ⟨sz, rfl, hz1, hz2⟩ : ∃ sz : Nat, x = .int sz ∧ 1 ≤ sz ∧ sz ≤ 64 := by
          rcases List.mem_cons.mp (List.mem_of_getElem? hj) with rfl | hi
          · exact ⟨b, rfl, hb1, hb2⟩
          rcases List.mem_cons.mp hi with rfl | hi
          · exact ⟨32, rfl, by decide, by decide⟩
          · rw [List.mem_singleton] at hi
            exact ⟨64, hi, by decide, by decide⟩
        have s14 := s3.trans s4
        refine ⟨by show 2 ≤ sizeLine; decide, fun p4 hp4 => ?_⟩
        have hl5 : (upd H4 p4 (.lst [.bl true, .bl false])) p4 = some (.lst [.bl true, .bl false]) := upd_same
        have s5 := Same.new (o := .lst [.bl true, .bl false]) hp4
        generalize upd H4 p4 (.lst [.bl true, .bl false]) = H5 at s5 hl5 ⊢
        refine ⟨p4, rfl, ⟨_, SqL.of hl5⟩, for_listD (K := K) (a := p4) (xs := [.bl true, .bl false]) (fun j σ H6 => Same H5 H6 ∧ ∃ o6 o7 o8 o9, σ = [some (.ref a), some (.ref p), some (.int b), some (.int i), some (.int e), some (.int sz), o6, o7, o8, o9])
          ⟨Same.refl _, _, _, _, _, rfl⟩ (fun j σ H4 _ h => h.1.seq (SqL.of hl5)) ?_ ?_⟩
        · rintro j2 y _ H6 hj2 ⟨s6, o6, o7, o8, o9, rfl⟩
          obtain ⟨sg, rfl⟩ : ∃ sg, y = .bl sg := by
            rcases List.mem_cons.mp (List.mem_of_getElem? hj2) with rfl | hi
            · exact ⟨_, rfl⟩
            · rw [List.mem_singleton] at hi
              exact ⟨_, hi⟩
          have s16 := s14.trans (s5.trans s6)
          have hp6 := s16 _ _ hp
          have hSp6 : SqL K H6 p (xs.map V.int) := SqL.of hp6
          refine ⟨_, rfl, p, _, rfl, .inl hSp6, fun p7 hp7 => ?_⟩
          have s7 := s16.trans (Same.new (o := .lst (xs.map V.int)) hp7)
          have hl7 : (upd H6 p7 (.lst (xs.map V.int))) p7 = some (.lst (xs.map V.int)) := upd_same
          have s67 := Same.new (o := .lst (xs.map V.int)) hp7
          generalize upd H6 p7 (.lst (xs.map V.int)) = H7 at s7 s67 hl7 ⊢
          have hSp7 : SqL K H7 p (xs.map V.int) := SqL.of (s7 _ _ hp)
          have hSq7 : SqL K H7 p7 (xs.map V.int) := SqL.of hl7
          obtain ⟨dt, hdt, hdp⟩ := shaped_er _ (rd_shape sg xs i e sz hz1)
          refine ⟨_, rfl, _, rfl, _, rfl, _, rfl, _, rfl, p, xs, i, e, sz, sg, rfl, hSp7, hB, he, hz1, hz2, fun t1 H8 s8 ht1 => ?_⟩
          refine ⟨_, rfl, _, rfl, _, rfl, _, rfl, _, rfl, p7, xs, i, e, sz, sg, rfl, s8.seq hSq7, hB, he, hz1, hz2, fun t2 H9 s9 ht2 => ?_⟩
          have s79 := s8.trans s9
          have e9 : PyData.eqv dt dt = true := SeqAt.eqv_refl dt (SeqAt.canLay_of_shaped hdt)
          have hT1 : SqT K H9 t1 (erV (rd sg xs i e sz)) := SqT.of (s9 _ _ ht1)
          have hT2 : SqT K H9 t2 (erV (rd sg xs i e sz)) := SqT.of ht2
          have hD1 := hdp K H9 t1 hT1
          have hD2 := hdp K H9 t2 hT2
          rcases rd_shape sg xs i e sz hz1 with ⟨z, n, hr, _⟩ | ⟨v, n, hr⟩
          all_goals
            rw [hr] at ht2 hT1 hT2
            simp only [erV] at ht2 hT1 hT2
            walk_at "go"
            refine ⟨_, _, dp_ints (s79.seq hSq7), dp_ints (s79.seq hSp7), shaped_ints _, shaped_ints _, ?_⟩
            simp only [eqv_ints]
            walk_at "go"
            refine ⟨dt, dt, hD2, hD1, hdt, hdt, ?_⟩
            simp only [e9]
            walk_at "go"
            exact ⟨s6.trans (s67.trans s79), _, _, _, _, rfl⟩
        · rintro _ H6 ⟨s6, o6, o7, o8, o9, rfl⟩
          exact ⟨s4.trans (s5.trans s6), _, _, _, _, _, rfl⟩
      · rintro _ H4 ⟨s4, o5, o6, o7, o8, o9, rfl⟩
        exact ⟨s3.trans s4, _, _, _, _, _, _, _, rfl⟩
    · rintro _ H2 ⟨s2, o3, o4, o5, o6, o7, o8, o9, rfl⟩
      exact q _
end
theorem all_mk {l : PySem.W.OpenLaw} {w : World} {K : PySem.W.Frag} {h : Heap} {mg : Str → Option Value} {fa f0 f1 f2 f3 f4 f5 f6 f7 f8 f9 f10 : Addr} (X : K.In h) (G : h.Ns mainGlobals mg) (hfa : mg "law" = some (.ref fa))
    {od0 an0 od1 an1 od2 an2 od3 an3 od4 an4 od5 an5 od6 an6 od7 an7 od8 an8 od9 an9 od10 an10 : Option Addr} {sl0 sl1 sl2 sl3 sl4 sl5 sl6 sl7 sl8 sl9 sl10 : Array (Option Value)} {oc0 kV0 dc0 pm0 cd0 ct0 oc1 kV1 dc1 pm1 cd1 ct1 oc2 kV2 dc2 pm2 cd2 ct2 oc3 kV3 dc3 pm3 cd3 ct3 oc4 kV4 dc4 pm4 cd4 ct4 oc5 kV5 dc5 pm5 cd5 ct5 oc6 kV6 dc6 pm6 cd6 ct6 oc7 kV7 dc7 pm7 cd7 ct7 oc8 kV8 dc8 pm8 cd8 ct8 oc9 kV9 dc9 pm9 cd9 ct9 oc10 kV10 dc10 pm10 cd10 ct10 : Value}
    (a0 : PySem.W.nsIn K mainGlobals "byte_at" = some (some (.ref f0))) (l0 : K.lookup f0 = some ⟨oc0, od0, .func (PySem.W.fnOf "byte_at" "byte_at" (defArgs s_byte_at) (defBody s_byte_at) (defScope s_byte_at) .none kV0 dc0 pm0 an0 cd0 ct0), sl0⟩) (c0 : PySem.W.codeIn K cd0 "byte_at" = true) (k0 : PySem.W.keepIn K (.ref f0) = true)
    (a1 : PySem.W.nsIn K mainGlobals "read_groups" = some (some (.ref f1))) (l1 : K.lookup f1 = some ⟨oc1, od1, .func (PySem.W.fnOf "read_groups" "read_groups" (defArgs s_read_groups) (defBody s_read_groups) (defScope s_read_groups) .none kV1 dc1 pm1 an1 cd1 ct1), sl1⟩) (c1 : PySem.W.codeIn K cd1 "read_groups" = true) (k1 : PySem.W.keepIn K (.ref f1) = true)
    (a2 : PySem.W.nsIn K mainGlobals "read_unsigned" = some (some (.ref f2))) (l2 : K.lookup f2 = some ⟨oc2, od2, .func (PySem.W.fnOf "read_unsigned" "read_unsigned" (defArgs s_read_unsigned) (defBody s_read_unsigned) (defScope s_read_unsigned) .none kV2 dc2 pm2 an2 cd2 ct2), sl2⟩) (c2 : PySem.W.codeIn K cd2 "read_unsigned" = true) (k2 : PySem.W.keepIn K (.ref f2) = true)
    (a3 : PySem.W.nsIn K mainGlobals "read_signed" = some (some (.ref f3))) (l3 : K.lookup f3 = some ⟨oc3, od3, .func (PySem.W.fnOf "read_signed" "read_signed" (defArgs s_read_signed) (defBody s_read_signed) (defScope s_read_signed) .none kV3 dc3 pm3 an3 cd3 ct3), sl3⟩) (c3 : PySem.W.codeIn K cd3 "read_signed" = true) (k3 : PySem.W.keepIn K (.ref f3) = true)
    (a4 : PySem.W.nsIn K mainGlobals "_law_is_integer" = some (some (.ref f4))) (l4 : K.lookup f4 = some ⟨oc4, od4, .func (PySem.W.fnOf "_law_is_integer" "_law_is_integer" (defArgs s__law_is_integer) (defBody s__law_is_integer) (defScope s__law_is_integer) .none kV4 dc4 pm4 an4 cd4 ct4), sl4⟩) (c4 : PySem.W.codeIn K cd4 "_law_is_integer" = true) (k4 : PySem.W.keepIn K (.ref f4) = true)
    (a5 : PySem.W.nsIn K mainGlobals "_law_cell" = some (some (.ref f5))) (l5 : K.lookup f5 = some ⟨oc5, od5, .func (PySem.W.fnOf "_law_cell" "_law_cell" (defArgs s__law_cell) (defBody s__law_cell) (defScope s__law_cell) .none kV5 dc5 pm5 an5 cd5 ct5), sl5⟩) (c5 : PySem.W.codeIn K cd5 "_law_cell" = true) (k5 : PySem.W.keepIn K (.ref f5) = true)
    (a6 : PySem.W.nsIn K mainGlobals "_law_last" = some (some (.ref f6))) (l6 : K.lookup f6 = some ⟨oc6, od6, .func (PySem.W.fnOf "_law_last" "_law_last" (defArgs s__law_last) (defBody s__law_last) (defScope s__law_last) .none kV6 dc6 pm6 an6 cd6 ct6), sl6⟩) (c6 : PySem.W.codeIn K cd6 "_law_last" = true) (k6 : PySem.W.keepIn K (.ref f6) = true)
    (a7 : PySem.W.nsIn K mainGlobals "_law_due" = some (some (.ref f7))) (l7 : K.lookup f7 = some ⟨oc7, od7, .func (PySem.W.fnOf "_law_due" "_law_due" (defArgs s__law_due) (defBody s__law_due) (defScope s__law_due) .none kV7 dc7 pm7 an7 cd7 ct7), sl7⟩) (c7 : PySem.W.codeIn K cd7 "_law_due" = true) (k7 : PySem.W.keepIn K (.ref f7) = true)
    (a8 : PySem.W.nsIn K mainGlobals "_law_told" = some (some (.ref f8))) (l8 : K.lookup f8 = some ⟨oc8, od8, .func (PySem.W.fnOf "_law_told" "_law_told" (defArgs s__law_told) (defBody s__law_told) (defScope s__law_told) .none kV8 dc8 pm8 an8 cd8 ct8), sl8⟩) (c8 : PySem.W.codeIn K cd8 "_law_told" = true) (k8 : PySem.W.keepIn K (.ref f8) = true)
    (a9 : PySem.W.nsIn K mainGlobals "_law_data" = some (some (.ref f9))) (l9 : K.lookup f9 = some ⟨oc9, od9, .func (PySem.W.fnOf "_law_data" "_law_data" (defArgs s__law_data) (defBody s__law_data) (defScope s__law_data) .none kV9 dc9 pm9 an9 cd9 ct9), sl9⟩) (c9 : PySem.W.codeIn K cd9 "_law_data" = true) (k9 : PySem.W.keepIn K (.ref f9) = true)
    (a10 : PySem.W.nsIn K mainGlobals "law" = some (some (.ref f10))) (l10 : K.lookup f10 = some ⟨oc10, od10, .func (PySem.W.fnOf "law" "law" (defArgs s_law) (defBody s_law) (defScope s_law) .none kV10 dc10 pm10 an10 cd10 ct10), sl10⟩) (c10 : PySem.W.codeIn K cd10 "law" = true) (k10 : PySem.W.keepIn K (.ref f10) = true)
    (z_bool : PySem.W.nsIn K mainGlobals "bool" = some none)
    (z_int : PySem.W.nsIn K mainGlobals "int" = some none)
    (z_isinstance : PySem.W.nsIn K mainGlobals "isinstance" = some none)
    (z_len : PySem.W.nsIn K mainGlobals "len" = some none)
    (z_list : PySem.W.nsIn K mainGlobals "list" = some none)
    (z_range : PySem.W.nsIn K mainGlobals "range" = some none)
    (z_tuple : PySem.W.nsIn K mainGlobals "tuple" = some none)
    {cC_HostError cC_DecodeError cI_DecodeError cC_LimitReached cI_LimitReached : Addr}
    (sp0 : PySem.W.specialIn K (.builtin "object.__class__") "__get__" = some (some (.builtin "getset_descriptor.__get__"))) (tk0 : PySem.W.takesIn K (.builtin "object.__class__") = some true)
    (aC_HostError : PySem.W.nsIn K mainGlobals "HostError" = some (some (.ref cC_HostError)))
    (aC_DecodeError : PySem.W.nsIn K mainGlobals "DecodeError" = some (some (.ref cC_DecodeError)))
    (aC_LimitReached : PySem.W.nsIn K mainGlobals "LimitReached" = some (some (.ref cC_LimitReached)))
    (ex_HostError : PySem.W.subIn K (.ref cC_HostError) (.type "BaseException") = some true)
    (ty_HostError : PySem.W.typeIn K (.ref cC_HostError) = some (.type "type"))
    (hd_HostError : PySem.W.hasDictIn K cC_HostError = true)
    (ex_DecodeError : PySem.W.subIn K (.ref cC_DecodeError) (.type "BaseException") = some true)
    (ty_DecodeError : PySem.W.typeIn K (.ref cC_DecodeError) = some (.type "type"))
    (hd_DecodeError : PySem.W.hasDictIn K cC_DecodeError = true)
    (ex_LimitReached : PySem.W.subIn K (.ref cC_LimitReached) (.type "BaseException") = some true)
    (ty_LimitReached : PySem.W.typeIn K (.ref cC_LimitReached) = some (.type "type"))
    (hd_LimitReached : PySem.W.hasDictIn K cC_LimitReached = true)
    {nm_DecodeError qn_DecodeError : Str} {N_DecodeError : Addr} {bs_DecodeError : List Value} {sn_DecodeError : List Str} {sub_DecodeError : List Value} {ab_DecodeError : Bool} {col_DecodeError : Option Bool} {dd_DecodeError : Option Addr} {m0_DecodeError m1_DecodeError m2_DecodeError m3_DecodeError m5_DecodeError : Option Value}
    (xl_DecodeError : K.lookup cC_DecodeError = some (excClassObj nm_DecodeError qn_DecodeError cC_DecodeError N_DecodeError bs_DecodeError [.ref cC_HostError, .type "ValueError", .type "Exception", .type "BaseException", .type "object"] true sn_DecodeError sub_DecodeError ab_DecodeError col_DecodeError dd_DecodeError m0_DecodeError m1_DecodeError m2_DecodeError m3_DecodeError m5_DecodeError "ValueError.__new__"))
    (sa_DecodeError : PySem.W.findIn K (.ref cC_DecodeError) "__setattr__" = some (some (.builtin "object.__setattr__")))
    (ga_DecodeError : PySem.W.findIn K (.ref cC_DecodeError) "__getattribute__" = some (some (.builtin "BaseException.__getattribute__")))
    (gg_DecodeError : PySem.W.findIn K (.ref cC_DecodeError) "__getattr__" = some none)
    (ca_DecodeError : PySem.W.findIn K (.ref cC_DecodeError) "__class__" = some (some (.builtin "object.__class__")))
    (kp_DecodeError : PySem.W.keepIn K (.ref cC_DecodeError) = true)
    (mr_DecodeError : PySem.W.mroIn K cC_DecodeError (.type "object") = some true)
    {odI_DecodeError anI_DecodeError : Option Addr} {slI_DecodeError : Array (Option Value)} {ocI_DecodeError kVI_DecodeError dcI_DecodeError pmI_DecodeError cdI_DecodeError ctI_DecodeError : Value}
    (aI_DecodeError : PySem.W.findIn K (.ref cC_DecodeError) "__init__" = some (some (.ref cI_DecodeError))) (tI_DecodeError : PySem.W.typeIn K (.ref cI_DecodeError) = some (.type "function"))
    (lI_DecodeError : K.lookup cI_DecodeError = some ⟨ocI_DecodeError, odI_DecodeError, .func (PySem.W.fnOf "__init__" "DecodeError.__init__" (defArgs i_DecodeError) (defBody i_DecodeError) (defScope i_DecodeError) .none kVI_DecodeError dcI_DecodeError pmI_DecodeError anI_DecodeError cdI_DecodeError ctI_DecodeError), slI_DecodeError⟩) (cdo_DecodeError : PySem.W.codeIn K cdI_DecodeError "DecodeError.__init__" = true) (kI_DecodeError : PySem.W.keepIn K (.ref cI_DecodeError) = true)
    (no_DecodeError_reason : PySem.W.findIn K (.ref cC_DecodeError) "reason" = some none)
    (no_DecodeError_place : PySem.W.findIn K (.ref cC_DecodeError) "place" = some none)
    (sub_DecodeError_HostError : PySem.W.subIn K (.ref cC_DecodeError) (.ref cC_HostError) = some true) (ne_DecodeError_HostError : (Value.ref cC_DecodeError == Value.ref cC_HostError) = false)
    (sub_DecodeError_DecodeError : PySem.W.subIn K (.ref cC_DecodeError) (.ref cC_DecodeError) = some true)
    (sub_DecodeError_LimitReached : PySem.W.subIn K (.ref cC_DecodeError) (.ref cC_LimitReached) = some false) (ne_DecodeError_LimitReached : (Value.ref cC_DecodeError == Value.ref cC_LimitReached) = false)
    (sub_DecodeError_VE : PySem.W.subIn K (.ref cC_DecodeError) (.type "ValueError") = some true)
    {nm_LimitReached qn_LimitReached : Str} {N_LimitReached : Addr} {bs_LimitReached : List Value} {sn_LimitReached : List Str} {sub_LimitReached : List Value} {ab_LimitReached : Bool} {col_LimitReached : Option Bool} {dd_LimitReached : Option Addr} {m0_LimitReached m1_LimitReached m2_LimitReached m3_LimitReached m5_LimitReached : Option Value}
    (xl_LimitReached : K.lookup cC_LimitReached = some (excClassObj nm_LimitReached qn_LimitReached cC_LimitReached N_LimitReached bs_LimitReached [.ref cC_HostError, .type "ValueError", .type "Exception", .type "BaseException", .type "object"] true sn_LimitReached sub_LimitReached ab_LimitReached col_LimitReached dd_LimitReached m0_LimitReached m1_LimitReached m2_LimitReached m3_LimitReached m5_LimitReached "ValueError.__new__"))
    (sa_LimitReached : PySem.W.findIn K (.ref cC_LimitReached) "__setattr__" = some (some (.builtin "object.__setattr__")))
    (ga_LimitReached : PySem.W.findIn K (.ref cC_LimitReached) "__getattribute__" = some (some (.builtin "BaseException.__getattribute__")))
    (gg_LimitReached : PySem.W.findIn K (.ref cC_LimitReached) "__getattr__" = some none)
    (ca_LimitReached : PySem.W.findIn K (.ref cC_LimitReached) "__class__" = some (some (.builtin "object.__class__")))
    (kp_LimitReached : PySem.W.keepIn K (.ref cC_LimitReached) = true)
    (mr_LimitReached : PySem.W.mroIn K cC_LimitReached (.type "object") = some true)
    {odI_LimitReached anI_LimitReached : Option Addr} {slI_LimitReached : Array (Option Value)} {ocI_LimitReached kVI_LimitReached dcI_LimitReached pmI_LimitReached cdI_LimitReached ctI_LimitReached : Value}
    (aI_LimitReached : PySem.W.findIn K (.ref cC_LimitReached) "__init__" = some (some (.ref cI_LimitReached))) (tI_LimitReached : PySem.W.typeIn K (.ref cI_LimitReached) = some (.type "function"))
    (lI_LimitReached : K.lookup cI_LimitReached = some ⟨ocI_LimitReached, odI_LimitReached, .func (PySem.W.fnOf "__init__" "LimitReached.__init__" (defArgs i_LimitReached) (defBody i_LimitReached) (defScope i_LimitReached) .none kVI_LimitReached dcI_LimitReached pmI_LimitReached anI_LimitReached cdI_LimitReached ctI_LimitReached), slI_LimitReached⟩) (cdo_LimitReached : PySem.W.codeIn K cdI_LimitReached "LimitReached.__init__" = true) (kI_LimitReached : PySem.W.keepIn K (.ref cI_LimitReached) = true)
    (no_LimitReached_what : PySem.W.findIn K (.ref cC_LimitReached) "what" = some none)
    (sub_LimitReached_HostError : PySem.W.subIn K (.ref cC_LimitReached) (.ref cC_HostError) = some true) (ne_LimitReached_HostError : (Value.ref cC_LimitReached == Value.ref cC_HostError) = false)
    (sub_LimitReached_DecodeError : PySem.W.subIn K (.ref cC_LimitReached) (.ref cC_DecodeError) = some false) (ne_LimitReached_DecodeError : (Value.ref cC_LimitReached == Value.ref cC_DecodeError) = false)
    (sub_LimitReached_LimitReached : PySem.W.subIn K (.ref cC_LimitReached) (.ref cC_LimitReached) = some true)
    (sub_LimitReached_VE : PySem.W.subIn K (.ref cC_LimitReached) (.type "ValueError") = some true)
    : ∃ fd : FuncData, (∀ (s : Shared) (v : Value), BindsTo s fd ⟨[v], []⟩ [("script", v)]) ∧ ∀ base : Heap, K.In base → base.Ns mainGlobals mg → FnOk l.prog w K mg base CX0 7 fa fd ["script"] (sp_lawK K) := by
  have e := hfa.symm.trans (PySem.W.mg_of X G a10)
  cases e
  have FI_DecodeError := fun_mk (st := i_DecodeError) lI_DecodeError cdo_DecodeError kI_DecodeError
  have FI_LimitReached := fun_mk (st := i_LimitReached) lI_LimitReached cdo_LimitReached kI_LimitReached
  have T : Tp w K mg (⟨cC_HostError, cC_DecodeError, cI_DecodeError, (PySem.W.fnOf "__init__" "DecodeError.__init__" (defArgs i_DecodeError) (defBody i_DecodeError) (defScope i_DecodeError) .none kVI_DecodeError dcI_DecodeError pmI_DecodeError anI_DecodeError cdI_DecodeError ctI_DecodeError), cC_LimitReached, cI_LimitReached, (PySem.W.fnOf "__init__" "LimitReached.__init__" (defArgs i_LimitReached) (defBody i_LimitReached) (defScope i_LimitReached) .none kVI_LimitReached dcI_LimitReached pmI_LimitReached anI_LimitReached cdI_LimitReached ctI_LimitReached)⟩ : Cs) := ⟨PySem.W.mg_none_of X G z_bool, PySem.W.mg_none_of X G z_int, PySem.W.mg_none_of X G z_isinstance, PySem.W.mg_none_of X G z_len, PySem.W.mg_none_of X G z_list, PySem.W.mg_none_of X G z_range, PySem.W.mg_none_of X G z_tuple, PySem.W.mg_of X G aC_HostError, PySem.W.mg_of X G aC_DecodeError, ⟨PySem.W.mg_of X G aC_DecodeError, ⟨⟨nm_DecodeError, qn_DecodeError, N_DecodeError, bs_DecodeError, _, sn_DecodeError, sub_DecodeError, ab_DecodeError, col_DecodeError, dd_DecodeError, m0_DecodeError, m1_DecodeError, m2_DecodeError, m3_DecodeError, m5_DecodeError, xl_DecodeError, by rfl⟩, sa_DecodeError, ex_DecodeError, ty_DecodeError, kp_DecodeError⟩, ga_DecodeError, gg_DecodeError, hd_DecodeError, ca_DecodeError, sp0, tk0, mr_DecodeError⟩, aI_DecodeError, tI_DecodeError, FI_DecodeError, FI_DecodeError.binds (ps := ["self", "reason", "place"]) fun _ _ _ _ _ _ us hl => match us, hl with | [_, _, _], _ => rfl, no_DecodeError_reason, no_DecodeError_place, kit_two ne_DecodeError_HostError hd_HostError ty_HostError sub_DecodeError_HostError, PySem.W.exm_ref ex_HostError hd_HostError ty_HostError sub_DecodeError_HostError, kit_self, PySem.W.exm_ref ex_DecodeError hd_DecodeError ty_DecodeError sub_DecodeError_DecodeError, kit_two ne_DecodeError_LimitReached hd_LimitReached ty_LimitReached sub_DecodeError_LimitReached, PySem.W.exm_ref ex_LimitReached hd_LimitReached ty_LimitReached sub_DecodeError_LimitReached, kit_ve sub_DecodeError_VE, PySem.W.mg_of X G aC_LimitReached, ⟨PySem.W.mg_of X G aC_LimitReached, ⟨⟨nm_LimitReached, qn_LimitReached, N_LimitReached, bs_LimitReached, _, sn_LimitReached, sub_LimitReached, ab_LimitReached, col_LimitReached, dd_LimitReached, m0_LimitReached, m1_LimitReached, m2_LimitReached, m3_LimitReached, m5_LimitReached, xl_LimitReached, by rfl⟩, sa_LimitReached, ex_LimitReached, ty_LimitReached, kp_LimitReached⟩, ga_LimitReached, gg_LimitReached, hd_LimitReached, ca_LimitReached, sp0, tk0, mr_LimitReached⟩, aI_LimitReached, tI_LimitReached, FI_LimitReached, FI_LimitReached.binds (ps := ["self", "what"]) fun _ _ _ _ _ _ us hl => match us, hl with | [_, _], _ => rfl, no_LimitReached_what, kit_two ne_LimitReached_HostError hd_HostError ty_HostError sub_LimitReached_HostError, PySem.W.exm_ref ex_HostError hd_HostError ty_HostError sub_LimitReached_HostError, kit_two ne_LimitReached_DecodeError hd_DecodeError ty_DecodeError sub_LimitReached_DecodeError, PySem.W.exm_ref ex_DecodeError hd_DecodeError ty_DecodeError sub_LimitReached_DecodeError, kit_self, PySem.W.exm_ref ex_LimitReached hd_LimitReached ty_LimitReached sub_LimitReached_LimitReached, kit_ve sub_LimitReached_VE⟩
  have F0 := fun_mk (st := s_byte_at) l0 c0 k0
  have D_byte_at : Def K mg "byte_at" s_byte_at ["data", "place", "end"] := ⟨_, _, F0, PySem.W.mg_of X G a0, F0.binds (ps := ["data", "place", "end"]) fun _ _ _ _ _ _ us hl => match us, hl with | [_, _, _], _ => rfl⟩
  have F1 := fun_mk (st := s_read_groups) l1 c1 k1
  have D_read_groups : Def K mg "read_groups" s_read_groups ["data", "place", "end", "bits"] := ⟨_, _, F1, PySem.W.mg_of X G a1, F1.binds (ps := ["data", "place", "end", "bits"]) fun _ _ _ _ _ _ us hl => match us, hl with | [_, _, _, _], _ => rfl⟩
  have F2 := fun_mk (st := s_read_unsigned) l2 c2 k2
  have D_read_unsigned : Def K mg "read_unsigned" s_read_unsigned ["data", "place", "end", "bits"] := ⟨_, _, F2, PySem.W.mg_of X G a2, F2.binds (ps := ["data", "place", "end", "bits"]) fun _ _ _ _ _ _ us hl => match us, hl with | [_, _, _, _], _ => rfl⟩
  have F3 := fun_mk (st := s_read_signed) l3 c3 k3
  have D_read_signed : Def K mg "read_signed" s_read_signed ["data", "place", "end", "bits"] := ⟨_, _, F3, PySem.W.mg_of X G a3, F3.binds (ps := ["data", "place", "end", "bits"]) fun _ _ _ _ _ _ us hl => match us, hl with | [_, _, _, _], _ => rfl⟩
  have F4 := fun_mk (st := s__law_is_integer) l4 c4 k4
  have D__law_is_integer : Def K mg "_law_is_integer" s__law_is_integer ["actual"] := ⟨_, _, F4, PySem.W.mg_of X G a4, F4.binds (ps := ["actual"]) fun _ _ _ _ _ _ us hl => match us, hl with | [_], _ => rfl⟩
  have F5 := fun_mk (st := s__law_cell) l5 c5 k5
  have D__law_cell : Def K mg "_law_cell" s__law_cell ["script", "k"] := ⟨_, _, F5, PySem.W.mg_of X G a5, F5.binds (ps := ["script", "k"]) fun _ _ _ _ _ _ us hl => match us, hl with | [_, _], _ => rfl⟩
  have F6 := fun_mk (st := s__law_last) l6 c6 k6
  have D__law_last : Def K mg "_law_last" s__law_last ["group", "bits", "with_sign"] := ⟨_, _, F6, PySem.W.mg_of X G a6, F6.binds (ps := ["group", "bits", "with_sign"]) fun _ _ _ _ _ _ us hl => match us, hl with | [_, _, _], _ => rfl⟩
  have F7 := fun_mk (st := s__law_due) l7 c7 k7
  have D__law_due : Def K mg "_law_due" s__law_due ["data", "place", "end", "bits", "with_sign"] := ⟨_, _, F7, PySem.W.mg_of X G a7, F7.binds (ps := ["data", "place", "end", "bits", "with_sign"]) fun _ _ _ _ _ _ us hl => match us, hl with | [_, _, _, _, _], _ => rfl⟩
  have F8 := fun_mk (st := s__law_told) l8 c8 k8
  have D__law_told : Def K mg "_law_told" s__law_told ["data", "place", "end", "bits", "with_sign"] := ⟨_, _, F8, PySem.W.mg_of X G a8, F8.binds (ps := ["data", "place", "end", "bits", "with_sign"]) fun _ _ _ _ _ _ us hl => match us, hl with | [_, _, _, _, _], _ => rfl⟩
  have F9 := fun_mk (st := s__law_data) l9 c9 k9
  have D__law_data : Def K mg "_law_data" s__law_data ["script"] := ⟨_, _, F9, PySem.W.mg_of X G a9, F9.binds (ps := ["script"]) fun _ _ _ _ _ _ us hl => match us, hl with | [_], _ => rfl⟩
  have F10 := fun_mk (st := s_law) l10 c10 k10
  refine ⟨PySem.W.fnOf "law" "law" (defArgs s_law) (defBody s_law) (defScope s_law) .none kV10 dc10 pm10 an10 cd10 ct10, fun s v => .of_eq rfl, fun base _ _ => ?_⟩
  have C__law_cell : Cal l.prog w K mg base CX0 1 "_law_cell" (sp__law_cell K (⟨cC_HostError, cC_DecodeError, cI_DecodeError, (PySem.W.fnOf "__init__" "DecodeError.__init__" (defArgs i_DecodeError) (defBody i_DecodeError) (defScope i_DecodeError) .none kVI_DecodeError dcI_DecodeError pmI_DecodeError anI_DecodeError cdI_DecodeError ctI_DecodeError), cC_LimitReached, cI_LimitReached, (PySem.W.fnOf "__init__" "LimitReached.__init__" (defArgs i_LimitReached) (defBody i_LimitReached) (defScope i_LimitReached) .none kVI_LimitReached dcI_LimitReached pmI_LimitReached anI_LimitReached cdI_LimitReached ctI_LimitReached)⟩ : Cs)) := c__law_cell D__law_cell T 
  have C__law_data : Cal l.prog w K mg base CX0 2 "_law_data" (sp__law_data K (⟨cC_HostError, cC_DecodeError, cI_DecodeError, (PySem.W.fnOf "__init__" "DecodeError.__init__" (defArgs i_DecodeError) (defBody i_DecodeError) (defScope i_DecodeError) .none kVI_DecodeError dcI_DecodeError pmI_DecodeError anI_DecodeError cdI_DecodeError ctI_DecodeError), cC_LimitReached, cI_LimitReached, (PySem.W.fnOf "__init__" "LimitReached.__init__" (defArgs i_LimitReached) (defBody i_LimitReached) (defScope i_LimitReached) .none kVI_LimitReached dcI_LimitReached pmI_LimitReached anI_LimitReached cdI_LimitReached ctI_LimitReached)⟩ : Cs)) := c__law_data D__law_data T C__law_cell
  have C__law_last : Cal l.prog w K mg base CX0 1 "_law_last" (sp__law_last K (⟨cC_HostError, cC_DecodeError, cI_DecodeError, (PySem.W.fnOf "__init__" "DecodeError.__init__" (defArgs i_DecodeError) (defBody i_DecodeError) (defScope i_DecodeError) .none kVI_DecodeError dcI_DecodeError pmI_DecodeError anI_DecodeError cdI_DecodeError ctI_DecodeError), cC_LimitReached, cI_LimitReached, (PySem.W.fnOf "__init__" "LimitReached.__init__" (defArgs i_LimitReached) (defBody i_LimitReached) (defScope i_LimitReached) .none kVI_LimitReached dcI_LimitReached pmI_LimitReached anI_LimitReached cdI_LimitReached ctI_LimitReached)⟩ : Cs)) := c__law_last D__law_last T 
  have C__law_due : Cal l.prog w K mg base CX0 2 "_law_due" (sp__law_due K (⟨cC_HostError, cC_DecodeError, cI_DecodeError, (PySem.W.fnOf "__init__" "DecodeError.__init__" (defArgs i_DecodeError) (defBody i_DecodeError) (defScope i_DecodeError) .none kVI_DecodeError dcI_DecodeError pmI_DecodeError anI_DecodeError cdI_DecodeError ctI_DecodeError), cC_LimitReached, cI_LimitReached, (PySem.W.fnOf "__init__" "LimitReached.__init__" (defArgs i_LimitReached) (defBody i_LimitReached) (defScope i_LimitReached) .none kVI_LimitReached dcI_LimitReached pmI_LimitReached anI_LimitReached cdI_LimitReached ctI_LimitReached)⟩ : Cs)) := c__law_due D__law_due T C__law_last
  have C_byte_at : Cal l.prog w K mg base (L2.CX l.prog w) 3 "byte_at" (sp_byte_at K (⟨cC_HostError, cC_DecodeError, cI_DecodeError, (PySem.W.fnOf "__init__" "DecodeError.__init__" (defArgs i_DecodeError) (defBody i_DecodeError) (defScope i_DecodeError) .none kVI_DecodeError dcI_DecodeError pmI_DecodeError anI_DecodeError cdI_DecodeError ctI_DecodeError), cC_LimitReached, cI_LimitReached, (PySem.W.fnOf "__init__" "LimitReached.__init__" (defArgs i_LimitReached) (defBody i_LimitReached) (defScope i_LimitReached) .none kVI_LimitReached dcI_LimitReached pmI_LimitReached anI_LimitReached cdI_LimitReached ctI_LimitReached)⟩ : Cs)) := c_byte_at D_byte_at T 
  have C_read_groups : Cal l.prog w K mg base (L2.CX l.prog w) 4 "read_groups" (sp_read_groups K (⟨cC_HostError, cC_DecodeError, cI_DecodeError, (PySem.W.fnOf "__init__" "DecodeError.__init__" (defArgs i_DecodeError) (defBody i_DecodeError) (defScope i_DecodeError) .none kVI_DecodeError dcI_DecodeError pmI_DecodeError anI_DecodeError cdI_DecodeError ctI_DecodeError), cC_LimitReached, cI_LimitReached, (PySem.W.fnOf "__init__" "LimitReached.__init__" (defArgs i_LimitReached) (defBody i_LimitReached) (defScope i_LimitReached) .none kVI_LimitReached dcI_LimitReached pmI_LimitReached anI_LimitReached cdI_LimitReached ctI_LimitReached)⟩ : Cs)) := c_read_groups D_read_groups T C_byte_at
  have C_read_unsigned : Cal l.prog w K mg base (L2.CX l.prog w) 5 "read_unsigned" (sp_read_unsigned K (⟨cC_HostError, cC_DecodeError, cI_DecodeError, (PySem.W.fnOf "__init__" "DecodeError.__init__" (defArgs i_DecodeError) (defBody i_DecodeError) (defScope i_DecodeError) .none kVI_DecodeError dcI_DecodeError pmI_DecodeError anI_DecodeError cdI_DecodeError ctI_DecodeError), cC_LimitReached, cI_LimitReached, (PySem.W.fnOf "__init__" "LimitReached.__init__" (defArgs i_LimitReached) (defBody i_LimitReached) (defScope i_LimitReached) .none kVI_LimitReached dcI_LimitReached pmI_LimitReached anI_LimitReached cdI_LimitReached ctI_LimitReached)⟩ : Cs)) := c_read_unsigned D_read_unsigned T C_read_groups
  have C_read_signed : Cal l.prog w K mg base (L2.CX l.prog w) 5 "read_signed" (sp_read_signed K (⟨cC_HostError, cC_DecodeError, cI_DecodeError, (PySem.W.fnOf "__init__" "DecodeError.__init__" (defArgs i_DecodeError) (defBody i_DecodeError) (defScope i_DecodeError) .none kVI_DecodeError dcI_DecodeError pmI_DecodeError anI_DecodeError cdI_DecodeError ctI_DecodeError), cC_LimitReached, cI_LimitReached, (PySem.W.fnOf "__init__" "LimitReached.__init__" (defArgs i_LimitReached) (defBody i_LimitReached) (defScope i_LimitReached) .none kVI_LimitReached dcI_LimitReached pmI_LimitReached anI_LimitReached cdI_LimitReached ctI_LimitReached)⟩ : Cs)) := c_read_signed D_read_signed T C_read_groups
  have C__law_told : Cal l.prog w K mg base CX0 6 "_law_told" (sp__law_told K (⟨cC_HostError, cC_DecodeError, cI_DecodeError, (PySem.W.fnOf "__init__" "DecodeError.__init__" (defArgs i_DecodeError) (defBody i_DecodeError) (defScope i_DecodeError) .none kVI_DecodeError dcI_DecodeError pmI_DecodeError anI_DecodeError cdI_DecodeError ctI_DecodeError), cC_LimitReached, cI_LimitReached, (PySem.W.fnOf "__init__" "LimitReached.__init__" (defArgs i_LimitReached) (defBody i_LimitReached) (defScope i_LimitReached) .none kVI_LimitReached dcI_LimitReached pmI_LimitReached anI_LimitReached cdI_LimitReached ctI_LimitReached)⟩ : Cs)) := c__law_told D__law_told T C_read_unsigned C_read_signed
  have C__law_is_integer : Cal l.prog w K mg base CX0 1 "_law_is_integer" (sp__law_is_integer K (⟨cC_HostError, cC_DecodeError, cI_DecodeError, (PySem.W.fnOf "__init__" "DecodeError.__init__" (defArgs i_DecodeError) (defBody i_DecodeError) (defScope i_DecodeError) .none kVI_DecodeError dcI_DecodeError pmI_DecodeError anI_DecodeError cdI_DecodeError ctI_DecodeError), cC_LimitReached, cI_LimitReached, (PySem.W.fnOf "__init__" "LimitReached.__init__" (defArgs i_LimitReached) (defBody i_LimitReached) (defScope i_LimitReached) .none kVI_LimitReached dcI_LimitReached pmI_LimitReached anI_LimitReached cdI_LimitReached ctI_LimitReached)⟩ : Cs)) := c__law_is_integer D__law_is_integer T 
  exact c_law F10 T C__law_data C__law_cell C__law_due C__law_told C__law_is_integer
theorem walk {l : PySem.W.OpenLaw} {q : Program} {loose : List Str} {XP : (Str → Option Value) → Heap → Prop} {YP : World → Heap → Prop} {d : DefRec} {K : Params → PySem.W.Frag} (hn : l.most = some 63) (hdf : d.params.defaults = [])
    (hY : ∀ (w : World) (h : Heap), YP w h → (K w.params).In h)
    (F : ∀ (w : World) (mg : Str → Option Value) (fa : Addr) (h : Heap), (K w.params).In h → h.Ns mainGlobals mg → mg d.name = some (.ref fa) →
      ∃ fd : FuncData, (∀ (s : Shared) (u : Value), BindsTo s fd ⟨[u], []⟩ [("script", u)]) ∧ ∀ base : Heap, (K w.params).In base → base.Ns mainGlobals mg → FnOk l.prog w (K w.params) mg base CX0 7 fa fd ["script"] (sp_lawK (K w.params))) :
    PySem.W.WalkO q loose XP YP l.row.toRowW d [] (fun f vs => PySem.call f vs) :=
  L2.walk_of (n := 63) (k := 7) (x := "script") (CX := fun _ => CX0) (sp := fun w => sp_lawK (K w.params)) hn (by decide) hdf ⟨rfl, by decide, by decide⟩ hY F (fun _ _ a ns hl _ hS => ⟨a, ns, rfl, hS, hl, fun _ => rfl⟩) fun _ _ _ _ _ z => z
end V
open PySem PySem.W PyProof.Rows
set_option maxRecDepth 100000 in
set_option maxHeartbeats 0 in
theorem PySem.Challenge.cw_wasmhost_k11_numbers_read_holds : PySem.Challenge.rw_wasmhost_k11_numbers_read.Holds := by
  w_on; o_law; k_head; (case hw => w_witness2)
  k_fill
  refine V.walk (l := PySem.Challenge.rw_wasmhost_k11_numbers_read) rfl rfl (fun w h Y => PySem.W.kIn_of Y) ?F
  case F =>
    intro w mg fa h KX G hmg
    refine' V.all_mk KX G hmg ?a0 ?l0 ?c0 ?k0 ?a1 ?l1 ?c1 ?k1 ?a2 ?l2 ?c2 ?k2 ?a3 ?l3 ?c3 ?k3 ?a4 ?l4 ?c4 ?k4 ?a5 ?l5 ?c5 ?k5 ?a6 ?l6 ?c6 ?k6 ?a7 ?l7 ?c7 ?k7 ?a8 ?l8 ?c8 ?k8 ?a9 ?l9 ?c9 ?k9 ?a10 ?l10 ?c10 ?k10 ?z_bool ?z_int ?z_isinstance ?z_len ?z_list ?z_range ?z_tuple ?sp0 ?tk0 ?aC_HostError ?aC_DecodeError ?aC_LimitReached ?ex_HostError ?ty_HostError ?hd_HostError ?ex_DecodeError ?ty_DecodeError ?hd_DecodeError ?ex_LimitReached ?ty_LimitReached ?hd_LimitReached ?xl_DecodeError ?sa_DecodeError ?ga_DecodeError ?gg_DecodeError ?ca_DecodeError ?kp_DecodeError ?mr_DecodeError ?aI_DecodeError ?tI_DecodeError ?lI_DecodeError ?cdo_DecodeError ?kI_DecodeError ?no_DecodeError_reason ?no_DecodeError_place ?sub_DecodeError_HostError ?ne_DecodeError_HostError ?sub_DecodeError_DecodeError ?sub_DecodeError_LimitReached ?ne_DecodeError_LimitReached ?sub_DecodeError_VE ?xl_LimitReached ?sa_LimitReached ?ga_LimitReached ?gg_LimitReached ?ca_LimitReached ?kp_LimitReached ?mr_LimitReached ?aI_LimitReached ?tI_LimitReached ?lI_LimitReached ?cdo_LimitReached ?kI_LimitReached ?no_LimitReached_what ?sub_LimitReached_HostError ?ne_LimitReached_HostError ?sub_LimitReached_DecodeError ?ne_LimitReached_DecodeError ?sub_LimitReached_LimitReached ?sub_LimitReached_VE
    (case a0 => k_is)
    (case l0 => k_is)
    (case c0 => k_is)
    (case k0 => k_is)
    (case a1 => k_is)
    (case l1 => k_is)
    (case c1 => k_is)
    (case k1 => k_is)
    (case a2 => k_is)
    (case l2 => k_is)
    (case c2 => k_is)
    (case k2 => k_is)
    (case a3 => k_is)
    (case l3 => k_is)
    (case c3 => k_is)
    (case k3 => k_is)
    (case a4 => k_is)
    (case l4 => k_is)
    (case c4 => k_is)
    (case k4 => k_is)
    (case a5 => k_is)
    (case l5 => k_is)
    (case c5 => k_is)
    (case k5 => k_is)
    (case a6 => k_is)
    (case l6 => k_is)
    (case c6 => k_is)
    (case k6 => k_is)
    (case a7 => k_is)
    (case l7 => k_is)
    (case c7 => k_is)
    (case k7 => k_is)
    (case a8 => k_is)
    (case l8 => k_is)
    (case c8 => k_is)
    (case k8 => k_is)
    (case a9 => k_is)
    (case l9 => k_is)
    (case c9 => k_is)
    (case k9 => k_is)
    (case a10 => k_is)
    (case l10 => k_is)
    (case c10 => k_is)
    (case k10 => k_is)
    (case z_bool => k_is)
    (case z_int => k_is)
    (case z_isinstance => k_is)
    (case z_len => k_is)
    (case z_list => k_is)
    (case z_range => k_is)
    (case z_tuple => k_is)
    (case sp0 => k_is)
    (case tk0 => k_is)
    (case aC_HostError => k_is)
    (case aC_DecodeError => k_is)
    (case aC_LimitReached => k_is)
    (case ex_HostError => k_is)
    (case ty_HostError => k_is)
    (case hd_HostError => k_is)
    (case ex_DecodeError => k_is)
    (case ty_DecodeError => k_is)
    (case hd_DecodeError => k_is)
    (case ex_LimitReached => k_is)
    (case ty_LimitReached => k_is)
    (case hd_LimitReached => k_is)
    (case xl_DecodeError => k_is)
    (case sa_DecodeError => k_is)
    (case ga_DecodeError => k_is)
    (case gg_DecodeError => k_is)
    (case ca_DecodeError => k_is)
    (case kp_DecodeError => k_is)
    (case mr_DecodeError => k_is)
    (case aI_DecodeError => k_is)
    (case tI_DecodeError => k_is)
    (case lI_DecodeError => k_is)
    (case cdo_DecodeError => k_is)
    (case kI_DecodeError => k_is)
    (case no_DecodeError_reason => k_is)
    (case no_DecodeError_place => k_is)
    (case sub_DecodeError_HostError => first | rfl | k_is)
    (case ne_DecodeError_HostError => decide)
    (case sub_DecodeError_DecodeError => first | rfl | k_is)
    (case sub_DecodeError_LimitReached => first | rfl | k_is)
    (case ne_DecodeError_LimitReached => decide)
    (case sub_DecodeError_VE => first | rfl | k_is)
    (case xl_LimitReached => k_is)
    (case sa_LimitReached => k_is)
    (case ga_LimitReached => k_is)
    (case gg_LimitReached => k_is)
    (case ca_LimitReached => k_is)
    (case kp_LimitReached => k_is)
    (case mr_LimitReached => k_is)
    (case aI_LimitReached => k_is)
    (case tI_LimitReached => k_is)
    (case lI_LimitReached => k_is)
    (case cdo_LimitReached => k_is)
    (case kI_LimitReached => k_is)
    (case no_LimitReached_what => k_is)
    (case sub_LimitReached_HostError => first | rfl | k_is)
    (case ne_LimitReached_HostError => decide)
    (case sub_LimitReached_DecodeError => first | rfl | k_is)
    (case ne_LimitReached_DecodeError => decide)
    (case sub_LimitReached_LimitReached => first | rfl | k_is)
    (case sub_LimitReached_VE => first | rfl | k_is)
#print axioms PySem.Challenge.cw_wasmhost_k11_numbers_read_holds


