import PyProof.Rows.All
import Wide.All
import OpenK.AllK
import Wide.FinOn
import KE.KBits
import KE.BitLaws
import HandS.ForMost
import HandS.ForExc
import HandS.IsInst
import HandS.Wide
import HandS.WideBits
import HandS.WideMore
import HandS.Flow
import HandS.ExcInit
import HandS.Codes
import HandS.ExcField
import HandS.ExcIs
import KE.KExcIs
import KE.KIsAll
import HandS.Style
import PySem.Challenge.RW_wasmhost_k02_bytes_of_words
set_option Elab.async false
set_option linter.all false
set_option maxRecDepth 100000
set_option maxHeartbeats 4000000
namespace V
open PySem PySem.Spec PyProof.Rows L2
/-! ### a def that may be called by its name -/
structure Cal (P : Program) (w : World) (K : PySem.W.Frag) (mg : Str → Option Value) (base : Heap) (C : CXT) (k : Nat) (x : Str) (sp : Sp) : Prop where
  ex : ∃ (f : Addr) (fd : FuncData) (ps : List Str), FnOk P w K mg base C k f fd ps sp ∧ mg x = some (.ref f) ∧ PySem.W.keepIn K (.ref f) = true ∧ Binds K fd ps []
section
variable {P : Program} {w : World} {K : PySem.W.Frag} {mg : Str → Option Value} {base : Heap} {k : Nat} {x : Str} {sp sp' : Sp} {C : CXT}
theorem Cal.mono (c : Cal P w K mg base C k x sp) {j : Nat} (h : k ≤ j) : Cal P w K mg base C j x sp := by
  obtain ⟨f, fd, ps, F, m, kp, b⟩ := c.ex
  exact ⟨f, fd, ps, F.mono h, m, kp, b⟩
theorem Cal.imp (c : Cal P w K mg base C k x sp) (h : ∀ vs H Q E, sp' vs H Q E → sp vs H Q E) : Cal P w K mg base C k x sp' := by
  obtain ⟨f, fd, ps, F, m, kp, b⟩ := c.ex
  exact ⟨f, fd, ps, F.imp h, m, kp, b⟩
/-- a def as the top leaves it -/
structure Def (K : PySem.W.Frag) (mg : Str → Option Value) (x : Str) (st : Stmt) (ps : List Str) : Prop where
  ex : ∃ (f : Addr) (fd : FuncData), L2.Fun K x x st f fd ∧ mg x = some (.ref f) ∧ Binds K fd ps []
theorem Def.ok {st : Stmt} {N ps : List Str} (D : Def K mg x st ps) (S : FnScope N ps (defScope st)) (len : ∀ vs H Q E, sp vs H Q E → vs.length = ps.length)
    (hbody : ∀ (f : Addr) (cdv : Value) (A : Around) (outer : List Env) (s : Shared) (H : Hp) (vs : List V) (Q : VK) (E : XK), Room k (A.deeper (envOfC x (defScope st) s.heap.objs.size f cdv)) → sp vs H Q E →
      ∃ t, PSs (cxOf CX0 P w K mg base N x (defScope st) f cdv A outer s H E).nox (defBody st) t ∧ t { nx := fun _ H' => Q .non H', rt := Q } (start N vs) H) : Cal P w K mg base CX0 (k + 1) x sp := by
  obtain ⟨f, fd, F, m, b⟩ := D.ex
  exact ⟨f, fd, ps, F.ok S len (hbody f), m, F.kp, b⟩
theorem Def.okX {st : Stmt} {N ps : List Str} (D : Def K mg x st ps) (S : FnScope N ps (defScope st)) (len : ∀ vs H Q E, sp vs H Q E → vs.length = ps.length)
    (hbody : ∀ (f : Addr) (cdv : Value) (A : Around) (outer : List Env) (s : Shared) (H : Hp) (vs : List V) (Q : VK) (E : XK), Room k (A.deeper (envOfC x (defScope st) s.heap.objs.size f cdv)) → sp vs H Q E →
      ∃ t, PSs (cxOf (L2.CX P w) P w K mg base N x (defScope st) f cdv A outer s H E) (defBody st) t ∧ t { nx := fun _ H' => Q .non H', rt := Q } (start N vs) H) : Cal P w K mg base (L2.CX P w) (k + 1) x sp := by
  obtain ⟨f, fd, F, m, b⟩ := D.ex
  exact ⟨f, fd, ps, F.okX S len (hbody f), m, F.kp, b⟩
end
section
variable {X : Cx} {k j : Nat} {x : Str} {sp : Sp} {p pos : Pos} {e : Expr} {es : List Expr} {t : TA} {C : CXT} {E : XK}
theorem pe_cE (c : Cal X.prog X.w X.K X.mg X.base C k x sp) (hr : Room j X.A) (hk : k ≤ j) (hx : Passes C X E) (hg : Gl X x) (ha : PA X (e :: es) t)
    (hdb : (x == ("__debug__" : Str)) = false := by decide) (he : starEach (e :: es) X.env = (false, eval e X.env) :: starEach es X.env := by rfl) (hpl : (backTo pos (starEach es X.env)).any (·.1) = false := by rfl) :
    PE X (.Call (.Name x p) (e :: es) [] pos) (tCall sp [] E t) := by
  obtain ⟨f, fd, ps, F, hm, kp, b⟩ := c.ex
  exact pe_call F (hr.mono hk) hg hm kp b .nil hx ha hdb he hpl
theorem pe_cE0 (c : Cal X.prog X.w X.K X.mg X.base C k x sp) (hr : Room j X.A) (hk : k ≤ j) (hx : Passes C X E) (hg : Gl X x)
    (hdb : (x == ("__debug__" : Str)) = false := by decide) : PE X (.Call (.Name x p) [] [] pos) (tCall sp [] E tNil) := by
  obtain ⟨f, fd, ps, F, hm, kp, b⟩ := c.ex
  exact pe_call0 F (hr.mono hk) hg hm kp b .nil hx hdb
/-- a def that lets nothing out -/
theorem pe_c (c : Cal X.prog X.w X.K X.mg X.base CX0 k x sp) (hr : Room j X.A) (hk : k ≤ j) (hg : Gl X x) (ha : PA X (e :: es) t)
    (hdb : (x == ("__debug__" : Str)) = false := by decide) (he : starEach (e :: es) X.env = (false, eval e X.env) :: starEach es X.env := by rfl) (hpl : (backTo pos (starEach es X.env)).any (·.1) = false := by rfl) :
    PE X (.Call (.Name x p) (e :: es) [] pos) (tCall sp [] E0 t) := pe_cE c hr hk pass0 hg ha hdb he hpl
theorem pe_c0 (c : Cal X.prog X.w X.K X.mg X.base CX0 k x sp) (hr : Room j X.A) (hk : k ≤ j) (hg : Gl X x)
    (hdb : (x == ("__debug__" : Str)) = false := by decide) : PE X (.Call (.Name x p) [] [] pos) (tCall sp [] E0 tNil) := pe_cE0 c hr hk pass0 hg hdb
end
section
variable {X : Cx} {k j : Nat} {x : Str} {sp : Sp} {p pos : Pos} {e : Expr} {es : List Expr} {t : TA} {C : CXT} {E : L2.St → XK}
/-- a call within a try -/
theorem pe_cS (c : Cal X.prog X.w X.K X.mg X.base C k x sp) (hr : Room j X.A) (hk : k ≤ j) (hg : Gl X x) (hx : ∀ σ, PassesAt C X σ (E σ)) (ha : PA X (e :: es) t)
    (hdb : (x == ("__debug__" : Str)) = false := by decide) (he : starEach (e :: es) X.env = (false, eval e X.env) :: starEach es X.env := by rfl) (hpl : (backTo pos (starEach es X.env)).any (·.1) = false := by rfl) : PE X (.Call (.Name x p) (e :: es) [] pos) (tCallS sp E t) := by
  obtain ⟨f, fd, ps, F, hm, kp, b⟩ := c.ex
  exact pe_callS F (hr.mono hk) hg hm kp b hx ha hdb he hpl
end
theorem hu64 {A : Around} {k : Nat} (hr : Room k A) : A.units + 64 < cLine := by have := hr.un; omega
/-! ### numbers -/
theorem small64 {n : Nat} (h : n ≤ 1000000) : n ≤ sizeLine := Nat.le_trans h (by decide)
theorem small64' {n : Nat} (h : n ≤ 1000000) : n < sizeLine := Nat.lt_of_le_of_lt h (by decide)
theorem shl1 {j : Int} (h : 0 ≤ j) (h2 : j ≤ 100000) : CShl 1 j := by
  obtain ⟨n, rfl⟩ := Int.eq_ofNat_of_zero_le h
  exact shl_ok (n := 1) (by decide) (by omega)
theorem shlN {i j : Int} (hi : i.natAbs < 2 ^ 1000) (h : 0 ≤ j) (h2 : j ≤ 100000) : CShl i j := by
  obtain ⟨n, rfl⟩ := Int.eq_ofNat_of_zero_le h
  exact shl_ok (n := 1000) hi (by omega)
theorem pow_pos2 (k : Nat) : (0 : Int) < 2 ^ k := PySem.W.kbt_pos k
/-! ### heaps -/
theorem Same.new {H : Hp} {p : Addr} {o : HO} (h : H p = none) : Same H (upd H p o) := fun b x e => by
  rw [upd_ne (ne_of_none e h)]; exact e
theorem SqL.new {K : PySem.W.Frag} {H : Hp} {p : Addr} {xs : List V} : SqL K (upd H p (.lst xs)) p xs := .inl (.inl upd_same)
theorem SqT.new {K : PySem.W.Frag} {H : Hp} {p : Addr} {xs : List V} : SqT K (upd H p (.tup xs)) p xs := .inl (.inl upd_same)

/-! ### operators in the words that the readings like -/
section
variable {X : Cx}
/-- i << j, i of a usual size -/
theorem op_shlS : OpR X (binaryOp .LShift) (fun x y H Q => ∃ i j : Int, x = .int i ∧ y = .int j ∧ (i.natAbs < 2 ^ 1000 ∧ 0 ≤ j ∧ j ≤ 100000) ∧ Q (.int (i * 2 ^ j.toNat)) H) := by
  intro pins s σ H x y v u Q I rx ry h
  obtain ⟨i, j, rfl, rfl, ⟨c0, c1, c2⟩, q⟩ := h
  exact op_shlW pins s σ H _ _ v u Q I rx ry ⟨i, j, rfl, rfl, shlN c0 c1 c2, q⟩
theorem nat_small {i : Int} (h : i.natAbs ≤ 18446744073709551616) : i.natAbs < 2 ^ 1000 := Nat.lt_of_le_of_lt h (by decide +kernel)
/-- 1 << j -/
theorem op_shl1 : OpR X (binaryOp .LShift) (fun x y H Q => ∃ j : Int, x = .int 1 ∧ y = .int j ∧ (0 ≤ j ∧ j ≤ 100000) ∧ Q (.int (2 ^ j.toNat)) H) := by
  intro pins s σ H x y v u Q I rx ry h
  obtain ⟨j, rfl, rfl, ⟨c1, c2⟩, q⟩ := h
  refine op_shlW pins s σ H _ _ v u Q I rx ry ⟨1, j, rfl, rfl, shl1 c1 c2, ?_⟩
  show Q (.int (1 * 2 ^ j.toNat)) H
  rw [Int.one_mul]; exact q
end
/-- isinstance(x, T) of a value of a type of its own -/
theorem isi_int {K : PySem.W.Frag} {H : Hp} {i : Int} {Q : VK} (q : Q (.bl true) H) : rIsi K [.int i, .ty "int"] H Q := ⟨.int i, .ty "int", _, _, true, rfl, .ty _, .base (.int _), kit_ty (by decide +kernel), q⟩
theorem isi_int_bool {K : PySem.W.Frag} {H : Hp} {i : Int} {Q : VK} (q : Q (.bl false) H) : rIsi K [.int i, .ty "bool"] H Q := ⟨.int i, .ty "bool", _, _, false, rfl, .ty _, .base (.int _), kit_ty (by decide +kernel), q⟩
theorem isi_list {K : PySem.W.Frag} {H : Hp} {a : Addr} {xs : List V} {Q : VK} (h : H a = some (.lst xs)) (q : Q (.bl true) H) : rIsi K [.ref a, .ty "list"] H Q := ⟨.ref a, .ty "list", _, _, true, rfl, .ty _, .base (.lst h), kit_ty (by decide +kernel), q⟩
theorem isi_tup {K : PySem.W.Frag} {H : Hp} {a : Addr} {xs : List V} {Q : VK} (h : H a = some (.tup xs)) (q : Q (.bl true) H) : rIsi K [.ref a, .ty "tuple"] H Q := ⟨.ref a, .ty "tuple", _, _, true, rfl, .ty _, .base (.tup h), kit_ty (by decide +kernel), q⟩
theorem isi_str {K : PySem.W.Frag} {H : Hp} {z : Str} {Q : VK} (q : Q (.bl true) H) : rIsi K [.str z, .ty "str"] H Q := ⟨.str z, .ty "str", _, _, true, rfl, .ty _, .base (.str _), kit_ty (by decide +kernel), q⟩
/-! ### lists of ints -/
theorem at_ints {ns : List Int} {k : Nat} (h : k < ns.length) : atI (ns.map V.int) (k : Int) = some (.int (ns.getD k 0)) := atI_nat (by
  rw [List.getElem?_map, List.getElem?_eq_getElem h, List.getD_eq_getElem?_getD, List.getElem?_eq_getElem h]; rfl)
theorem cut_to (xs : List V) (k : Nat) : cutV xs none (some (k : Int)) = xs.take k := by
  unfold cutV
  rw [HT.sIx_nat, HT.sIx_none, List.drop_zero, Nat.sub_zero]
  rcases Nat.le_total k xs.length with h | h
  · rw [Nat.min_eq_left h]
  · rw [Nat.min_eq_right h, List.take_length, List.take_of_length_le h]
theorem cut_from (xs : List V) (k : Nat) : cutV xs (some (k : Int)) none = xs.drop k := by
  unfold cutV
  rw [HT.sIx_nat, HT.sIx_none]
  rcases Nat.le_total k xs.length with h | h
  · rw [Nat.min_eq_left h]; exact List.take_of_length_le (by rw [List.length_drop]; exact Nat.le_refl _)
  · rw [Nat.min_eq_right h, Nat.sub_self, List.take_zero, List.drop_eq_nil_of_le h]
/-! ### a reading, gone through as far as it goes by sight -/
local macro_rules | `(tactic| walk_at "side") => `(tactic| first
  | (show _ = _; rfl)
  | (show (0 : Int) < _; first | omega | exact pow_pos2 _)
  | (show (0 : Int) ≤ _; omega)
  | (show (0 : Int) ≤ _ ∧ _; constructor <;> omega)
  | (show (0 : Int) < _ ∧ _; constructor <;> omega)
  | (show (_ < _ ∧ _ < _) ∨ (_ < _ ∧ _ < _); first | exact .inl ⟨by omega, by omega⟩ | exact .inr ⟨by omega, by omega⟩))
local macro_rules | `(tactic| walk_at "loop") => `(tactic| (show ∃ W : (Nat → Nat → L2.St → Hp → Prop), _))
local macro_rules | `(tactic| walk_at "go1") => `(tactic| (fail_if_success walk_at "loop"); first
  | refine And.intro (show (_ : Int) ≤ _ by omega) ?_
  | refine ⟨_, rfl, ?_⟩
  | refine ⟨_, _, rfl, rfl, ?_⟩
  | refine ⟨_, rfl, rfl, ?_⟩
  | refine .inl ⟨_, rfl, ?_⟩
  | refine ⟨_, .ty "int", _, _, true, rfl, .ty _, .base (.int _), kit_ty (by decide +kernel), ?_⟩
  | refine ⟨_, .ty "bool", _, _, false, rfl, .ty _, .base (.int _), kit_ty (by decide +kernel), ?_⟩
  | refine ⟨_, .ty "bool", _, _, false, rfl, .ty _, .base (.str _), kit_ty (by decide +kernel), ?_⟩
  | refine ⟨_, .ty "str", _, _, true, rfl, .ty _, .base (.str _), kit_ty (by decide +kernel), ?_⟩
  | refine ⟨_, .ty "list", _, _, true, rfl, .ty _, .base (.lst (by assumption)), kit_ty (by decide +kernel), ?_⟩
  | refine ⟨_, .ty "tuple", _, _, true, rfl, .ty _, .base (.tup (by assumption)), kit_ty (by decide +kernel), ?_⟩
  | refine ⟨_, _, rfl, .inl (by assumption), ?_⟩
  | refine ⟨_, _, rfl, .inr (by assumption), ?_⟩
  | refine ⟨_, _, rfl, ?_⟩
  | refine ⟨_, _, _, _, rfl, rfl, by assumption, at_ints (by omega), ?_⟩
  | refine ⟨_, _, _, _, rfl, rfl, by assumption, rfl, ?_⟩
  | refine iteF ?_
  | refine iteT ?_
  | refine iteNS rfl ?_
  | (refine And.intro ?h1 ?h2; case h1 => first
    | walk_at "side"
    | assumption
    | (show (_ : Nat) ≤ _; omega)
    | (show (_ : Int) ≤ _; omega)
    | (show (_ : Int) < _; omega)
    | (show 0 ≤ sizeLine; decide)
    | (show 1 ≤ sizeLine; decide)
    | (show 2 ≤ sizeLine; decide)
    | (show 3 ≤ sizeLine; decide)
    | (show 4 ≤ sizeLine; decide)
    | (show (_ : Nat) ≤ _; decide)))
local macro_rules | `(tactic| walk_at "go") => `(tactic| repeat walk_at "go1")
/-! ### tests that read alone, loops -/
theorem tor_b {t u : TT} {σ : L2.St} {H : Hp} {Q : Bool → Hp → Prop} (b1 b2 : Bool) (h1 : ∀ Q, Q b1 H → t σ H Q) (h2 : ∀ Q, Q b2 H → u σ H Q) (q : Q (b1 || b2) H) : tOr t u σ H Q := by
  refine h1 _ ?_
  cases b1 with
  | true => rw [if_pos rfl]; exact q
  | false => rw [if_neg (by decide)]; exact h2 _ q
theorem tand_b {t u : TT} {σ : L2.St} {H : Hp} {Q : Bool → Hp → Prop} (b1 b2 : Bool) (h1 : ∀ Q, Q b1 H → t σ H Q) (h2 : ∀ Q, Q b2 H → u σ H Q) (q : Q (b1 && b2) H) : tAnd t u σ H Q := by
  refine h1 _ ?_
  cases b1 with
  | true => rw [if_pos rfl]; exact h2 _ q
  | false => rw [if_neg (by decide)]; exact q
theorem while_ev {c : TT} {tb : TS} {D : Ends} {σ : L2.St} {H : Hp} (Pv : L2.St → Hp → Prop) (μ : L2.St → Hp → Nat) (h0 : Pv σ H)
    (hs : ∀ σ H, Pv σ H → ∃ b : Bool, (∀ Q, Q b H → c σ H Q) ∧ (b = true → tb { D with nx := fun σ' H' => Pv σ' H' ∧ μ σ' H' < μ σ H, ct := fun σ' H' => Pv σ' H' ∧ μ σ' H' < μ σ H, bk := D.nx } σ H) ∧ (b = false → D.nx σ H)) : tWhile c tb D σ H := by
  refine ⟨fun m σ H => m = μ σ H ∧ Pv σ H, ⟨_, rfl, h0⟩, ?_⟩
  rintro m σ H ⟨rfl, p⟩
  obtain ⟨b, h1, h2, h3⟩ := hs σ H p
  refine h1 _ ?_
  cases b with
  | true => exact ⟨_, fun σ' H' ⟨p', l⟩ => ⟨_, l, rfl, p'⟩, h2 rfl⟩
  | false => exact h3 rfl
/-- the loops' bookkeeping, with what follows and what returns told apart -/
theorem for_listD {K : PySem.W.Frag} {a : Addr} {xs : List V} {g : TG} {tb : TS} {nx : L2.St → Hp → Prop} {rt : VK} {σ : L2.St} {H : Hp} (Pv : Nat → L2.St → Hp → Prop) (h0 : Pv 0 σ H) (hl : ∀ i σ H, i ≤ xs.length → Pv i σ H → SqL K H a xs)
    (hs : ∀ i x σ H, xs[i]? = some x → Pv i σ H → g x σ H fun σ2 H2 => tb { nx := Pv (i + 1), rt := rt, bk := nx, ct := Pv (i + 1) } σ2 H2) (hd : ∀ σ H, Pv xs.length σ H → nx σ H) :
    ∃ W : Nat → Nat → L2.St → Hp → Prop, (∃ m, W 0 m σ H) ∧ ∀ i m σ H, W i m σ H → ((Itl K a).stop i H ∧ nx σ H) ∨ ((Itl K a).go i H ∧ ∃ N : L2.St → Hp → Prop, (∀ σ' H', N σ' H' → ∃ m', m' < m ∧ W (i + 1) m' σ' H') ∧
      ∀ x H', (Itl K a).yld i H x H' → g x σ H' fun σ2 H2 => tb { nx := N, rt := rt, bk := nx, ct := N } σ2 H2) := for_list (D := { nx := nx, rt := rt }) Pv h0 hl hs hd
theorem for_rangeD {lo : Int} {n : Nat} {g : TG} {tb : TS} {nx : L2.St → Hp → Prop} {rt : VK} {σ : L2.St} {H : Hp} (Pv : Nat → L2.St → Hp → Prop) (h0 : Pv 0 σ H)
    (hs : ∀ i σ H, i < n → Pv i σ H → g (.int (lo + i)) σ H fun σ2 H2 => tb { nx := Pv (i + 1), rt := rt, bk := nx, ct := Pv (i + 1) } σ2 H2) (hd : ∀ σ H, Pv n σ H → nx σ H) :
    ∃ W : Nat → Nat → L2.St → Hp → Prop, (∃ m, W 0 m σ H) ∧ ∀ i m σ H, W i m σ H → ((Itr lo n).stop i H ∧ nx σ H) ∨ ((Itr lo n).go i H ∧ ∃ N : L2.St → Hp → Prop, (∀ σ' H', N σ' H' → ∃ m', m' < m ∧ W (i + 1) m' σ' H') ∧
      ∀ x H', (Itr lo n).yld i H x H' → g x σ H' fun σ2 H2 => tb { nx := N, rt := rt, bk := nx, ct := N } σ2 H2) := for_range (D := { nx := nx, rt := rt }) Pv h0 hs hd
/-! ### a comprehension that makes f of each item -/
theorem lc_map {K : PySem.W.Frag} {a : Addr} {xs : List V} {j : Nat} {te : TE} {σ : L2.St} {H1 : Hp} {D : Addr} {Qd : Hp → Prop} (f : V → V) (hD : H1 D = none) (hS : SqL K H1 a xs) (hn : xs.length ≤ 100000)
    (hs : ∀ x H Q, x ∈ xs → Same H1 H → (∀ H', Same H H' → Q (f x) H') → te ((σ.set j none).set j (some x)) H Q) (hd : ∀ H, Same H1 H → H D = some (.lst (xs.map f)) → Qd H) :
    ∃ W : Nat → Nat → Hp → Prop, (∃ m, W 0 m (upd H1 D (.lst []))) ∧ ∀ i m H, W i m H →
      ((Itl K a).stop i H ∧ Qd H) ∨ ((Itl K a).go i H ∧ ∃ Nx : Hp → Prop, (∀ H', Nx H' → ∃ m', m' < m ∧ W (i + 1) m' H') ∧ ∀ x H', (Itl K a).yld i H x H' → gName j x (wipe σ [j]) H' fun σ2 H2 => wipe σ2 [j] = wipe σ [j] ∧ tYes σ2 H2 fun b H3 =>
        if b = true then te σ2 H3 fun y H4 => ∃ acc, H4 D = some (.lst acc) ∧ acc.length < sizeLine ∧ Nx (upd H4 D (.lst (acc ++ [y]))) else Nx H3) := by
  refine lc_list (xs := xs) (fun i H => Same H1 H ∧ H D = some (.lst ((xs.take i).map f))) ⟨Same.new hD, by rw [upd_same]; rfl⟩ (fun i H _ h => h.1.seq hS) (fun i x H hx h => ?_) (fun H h => hd H h.1 (by rw [List.take_length] at h; exact h.2))
  have hi : i < xs.length := (List.getElem?_eq_some_iff.mp hx).1
  refine ⟨?_, ?_⟩
  · show (((σ.set j none).set j (some x)).set j none) = σ.set j none
    rw [List.set_set, List.set_set]
  · simp only [tYes, if_true]
    refine hs x H _ (List.mem_of_getElem? hx) h.1 fun H' s' => ?_
    refine ⟨_, s' _ _ h.2, ?_, fun b o e => ?_, ?_⟩
    · rw [List.length_map, List.length_take]; exact small64' (by omega)
    · have nb : b ≠ D := fun z => by rw [z, hD] at e; cases e
      rw [upd_ne nb]; exact s' _ _ (h.1 _ _ e)
    · rw [upd_same, List.take_add_one, hx, List.map_append]; rfl

/-! ### the text by places -/
def top (i : Nat) : Stmt := PySem.Challenge.pw_wasmhost_k02_bytes_of_words.main.body.getD i (.Pass ⟨0, 0, 0, 0⟩)
abbrev s_word_bytes : Stmt := top 1
abbrev s_bytes_word : Stmt := top 2
abbrev s__law_is_integer : Stmt := top 4
abbrev s__law_cell : Stmt := top 5
abbrev s__law_number : Stmt := top 6
abbrev s__law_bytes : Stmt := top 7
abbrev s__law_written : Stmt := top 8
abbrev s_law : Stmt := top 9
theorem sc_word_bytes : FnScope ["number", "count", "data", "_"] ["number", "count"] (defScope s_word_bytes) := ⟨rfl, rfl, rfl, by decide +kernel, rfl, by decide +kernel, by decide +kernel⟩
theorem sc_bytes_word : FnScope ["data", "number", "byte"] ["data"] (defScope s_bytes_word) := ⟨rfl, rfl, rfl, by decide +kernel, rfl, by decide +kernel, by decide +kernel⟩
theorem sc__law_is_integer : FnScope ["actual"] ["actual"] (defScope s__law_is_integer) := ⟨rfl, rfl, rfl, by decide +kernel, rfl, by decide +kernel, by decide +kernel⟩
theorem sc__law_cell : FnScope ["script", "k"] ["script", "k"] (defScope s__law_cell) := ⟨rfl, rfl, rfl, by decide +kernel, rfl, by decide +kernel, by decide +kernel⟩
theorem sc__law_number : FnScope ["data", "number", "k"] ["data"] (defScope s__law_number) := ⟨rfl, rfl, rfl, by decide +kernel, rfl, by decide +kernel, by decide +kernel⟩
theorem sc__law_bytes : FnScope ["script", "data", "rest", "k", "cell"] ["script"] (defScope s__law_bytes) := ⟨rfl, rfl, rfl, by decide +kernel, rfl, by decide +kernel, by decide +kernel⟩
theorem sc__law_written : FnScope ["number", "count", "data", "byte", "back"] ["number", "count"] (defScope s__law_written) := ⟨rfl, rfl, rfl, by decide +kernel, rfl, by decide +kernel, by decide +kernel⟩
theorem sc_law : FnScope ["script", "first", "count", "data", "passed", "told", "again"] ["script"] (defScope s_law) := ⟨rfl, rfl, rfl, by decide +kernel, rfl, by decide +kernel, by decide +kernel⟩
/-- where the own classes stand -/
structure Cs where
  u : Unit
/-- what the top leaves: built-in names that nothing binds, own classes -/
structure Tp (w : World) (K : PySem.W.Frag) (mg : Str → Option Value) (cs : Cs) : Prop where
  m_bool : mg "bool" = none
  m_int : mg "int" = none
  m_isinstance : mg "isinstance" = none
  m_len : mg "len" = none
  m_list : mg "list" = none
  m_range : mg "range" = none
  m_tuple : mg "tuple" = none
/-! ### lists of ints that are the same -/
theorem dp_all {K : PySem.W.Frag} {H : Hp} : ∀ ns : List Int, DpAll K H (ns.map V.int) (ns.map PyData.int)
  | [] => .nil
  | _ :: r => .cons (.int _) (dp_all r)
theorem canlay_ints : ∀ ns : List Int, PyData.canLayAll0 (ns.map PyData.int) = true
  | [] => rfl
  | _ :: r => by
    show PyData.canLayAll0 (PyData.int _ :: r.map PyData.int) = true
    simp only [PyData.canLayAll0, PyData.canLay0, canlay_ints r, Bool.and_self]
theorem depth_ints : ∀ ns : List Int, PyData.depthAll (ns.map PyData.int) ≤ 63
  | [] => by simp [PyData.depthAll]
  | _ :: r => by
    have h := depth_ints r
    simp [PyData.depthAll, PyData.depth] at h ⊢
    exact h
theorem shaped_ints (ns : List Int) : SeqAt.shaped (.list (ns.map PyData.int)) = true := by
  unfold SeqAt.shaped
  rw [Bool.and_eq_true]
  refine ⟨?_, decide_eq_true ?_⟩
  · simp only [PyData.canLay0, canlay_ints]
  · have h := depth_ints ns
    simp only [PyData.depth] at h ⊢
    omega
theorem eqD_same {K : PySem.W.Frag} {H : Hp} {x y : V} {d : PyData} {Q : VK} (h1 : Dp K H x d) (h2 : Dp K H y d) (s : SeqAt.shaped d = true) (q : Q (.bl true) H) : rEqD K x y H Q :=
  ⟨d, d, h1, h2, s, s, by rw [SeqAt.eqv_refl d (SeqAt.canLay_of_shaped s)]; exact q⟩
theorem neD_same {K : PySem.W.Frag} {H : Hp} {x y : V} {d : PyData} {Q : VK} (h1 : Dp K H x d) (h2 : Dp K H y d) (s : SeqAt.shaped d = true) (q : Q (.bl false) H) : rNeD K x y H Q :=
  ⟨d, d, h1, h2, s, s, by rw [SeqAt.eqv_refl d (SeqAt.canLay_of_shaped s)]; exact q⟩
theorem dp_ints {K : PySem.W.Frag} {H : Hp} {a : Addr} {ns : List Int} (h : SqL K H a (ns.map V.int)) : Dp K H (.ref a) (.list (ns.map PyData.int)) := .lst h (dp_all ns)
theorem eqv_ints (ns : List Int) : PyData.eqv (.list (ns.map PyData.int)) (.list (ns.map PyData.int)) = true := SeqAt.eqv_refl _ (SeqAt.canLay_of_shaped (shaped_ints ns))

/-! ### t[::-1] of a tuple; a loop over the turned copy of a list or a tuple -/
theorem rv_adj (n : Nat) : Builtin.Slice.sliceAdjust none none (-1) (n : Int) = ((n : Int) - 1, -1) := by
  unfold Builtin.Slice.sliceAdjust
  rfl
theorem rv_places (n : Nat) : Builtin.Slice.slicePlaces ((n : Int) - 1) (-1) (-1) = n := by
  unfold Builtin.Slice.slicePlaces
  rw [if_neg (by omega)]
  by_cases h : (n : Int) - 1 > -1
  · rw [if_pos h, show (-(-1) : Int) = 1 from rfl, Int.ediv_one]; omega
  · rw [if_neg h]; show 0 = n; omega
theorem fm_congr {α β : Type} {f g : α → Option β} : ∀ {l : List α}, (∀ m ∈ l, f m = g m) → l.filterMap f = l.filterMap g
  | [], _ => rfl
  | a :: r, h => by
    rw [List.filterMap_cons, List.filterMap_cons, h a (List.mem_cons_self ..), fm_congr fun m hm => h m (List.mem_cons_of_mem _ hm)]
theorem rv_pick (xs : Array Value) : ((List.range xs.size).filterMap fun (m : Nat) => xs[((xs.size : Int) - 1 + (m : Int) * (-1)).toNat]?).toArray = xs.toList.reverse.toArray := by
  congr 1
  have e : ∀ m ∈ List.range xs.size, (fun (m : Nat) => xs[((xs.size : Int) - 1 + (m : Int) * (-1)).toNat]?) m = (fun (m : Nat) => xs[xs.size - 1 - m]?) m := by
    intro m hm
    have h := List.mem_range.mp hm
    have : ((xs.size : Int) - 1 + (m : Int) * (-1)).toNat = xs.size - 1 - m := by omega
    show xs[_]? = xs[_]?
    rw [this]
  rw [fm_congr e, ← PySem.W.krv_all, ← List.filterMap_reverse, ← PySem.W.krv_range, List.filterMap_map]
  rfl
section
variable {P : Program} {w : World} {A : Around} {E : Value → Shared → Prop} {s : Shared}
theorem rv_applied {sl : Addr} {u : Tok} {n : Nat} {Q : Int × Int × Nat → Shared → Prop} (hs : s.heap.IsSliceOf sl .none .none (.int (-1) u)) (h : Q ((n : Int) - 1, -1, n) s) :
    wpAny (model P w) A (Builtin.Slice.sliceApplied (.ref sl) (pure (n : Int))) Q E s := by
  obtain ⟨o, ho, hc, hd⟩ := hs
  unfold Builtin.Slice.sliceApplied Builtin.Slice.sliceFields
  refine wpAny_bind (wpAny_bind (wpAny_field ho hd (x := Value.none) rfl (wpAny_bind (wpAny_field ho hd (x := Value.none) rfl (wpAny_bind (wpAny_field ho hd (x := .int (-1) u) rfl (wpAny_pure ?_)))))))
  refine wpAny_bind (HT.slicePart_ (.int (-1) u) ?_)
  show wpAny _ _ (if ((-1 : Int) == 0) = true then _ else _) _ _ s
  rw [if_neg (by decide)]
  refine wpAny_bind (HT.slicePart_ .none (wpAny_bind (HT.slicePart_ .none (wpAny_bind (wpAny_pure ?_)))))
  show wpAny _ _ (match Builtin.Slice.sliceAdjust none none (-1) (n : Int) with | (lo, hi) => pure (lo, (-1 : Int), Builtin.Slice.slicePlaces lo hi (-1))) _ _ s
  rw [rv_adj]
  show wpAny _ _ (pure ((n : Int) - 1, (-1 : Int), Builtin.Slice.slicePlaces ((n : Int) - 1) (-1) (-1))) _ _ s
  rw [rv_places]
  exact wpAny_pure h
theorem rv_getItem {t sl : Addr} {xs : Array Value} {u : Tok} {Q : Value → Shared → Prop} (ht : IsTup s.heap t xs) (hs : s.heap.IsSliceOf sl .none .none (.int (-1) u))
    (h : Q (.ref s.heap.objs.size) { s with heap := s.heap.push { cls := .type "tuple", data := .seq xs.toList.reverse.toArray } }) (hz : xs.size ≤ sizeLine) :
    wpAny (model P w) A (getItem (.ref t) (.ref sl)) Q E s := by
  have hk : sizeOk (.seq xs.toList.reverse.toArray) := by
    show xs.toList.reverse.toArray.size ≤ sizeLine
    rw [List.size_toArray, List.length_reverse, Array.length_toList]
    exact hz
  have hT : s.TypeIs (.ref sl) "slice" := by obtain ⟨o, ho, hc, _⟩ := hs; exact ⟨o, ho, hc⟩
  unfold getItem
  try with_reducible refine wpAny_holding ?_
  try refine wpAny_bind (wpAny_pure ?_)
  refine wpAny_bind (wpAny_sequenceKey ht.typeIs (by decide) ?_)
  refine wpAny_bind (wpAny_callSpecial?_slot (name := Str.ofString "__getitem__") ht.typeIs PyProof.Rows.slot_tuple_getitem
    (wpAny_call_entry PyProof.Rows.slot_tuple_getitem ht.typeIs entry_tuple_getitem ?_ (args_tuple_getitem _ _)))
  show wpAny _ _ (Builtin.Tuple.tupleItemsOf (.ref t) >>= _) _ _ s
  refine wpAny_bind (tupleItemsOf_ ht ?_)
  refine wpAny_bind (wpAny_typeOf hT ?_)
  rw [if_pos (by decide)]
  refine wpAny_bind (rv_applied hs ?_)
  have hn : ¬ (((xs.size : Int) - 1 == 0 && (-1 : Int) == 1 && xs.size == xs.size) = true) := by
    rw [show ((-1 : Int) == 1) = false from rfl, Bool.and_false, Bool.false_and]; decide
  show wpAny _ _ (if ((xs.size : Int) - 1 == 0 && (-1 : Int) == 1 && xs.size == xs.size) = true then _ else _) _ _ s
  rw [if_neg hn, rv_pick]
  first
    | exact wpAny_bind (m := Builtin.Tuple.tupleExact _) (wpAny_newObj_type (wpAny_pure ⟨_, rfl, wpAny_pure h⟩) hk)
    | exact wpAny_bind (m := Builtin.Tuple.tupleExact _) (wpAny_newObj_type (wpAny_bind (wpAny_pure (wpAny_pure ⟨_, rfl, wpAny_pure h⟩))) hk)
    | exact wpAny_bind (wpAny_bind (m := Builtin.Tuple.tupleExact _) (wpAny_newObj_type (wpAny_pure (wpAny_pure ⟨_, rfl, wpAny_pure h⟩)) hk))
    | exact wpAny_bind (wpAny_bind (m := Builtin.Tuple.tupleExact _) (wpAny_newObj_type (wpAny_pure ⟨_, rfl, wpAny_pure h⟩) hk))
end
section
variable {X : Cx}
def tRevT (K : PySem.W.Frag) (te : TE) : TE := fun σ H Q => te σ H fun x H1 => ∃ a xs, x = .ref a ∧ SqT K H1 a xs ∧ ∀ p, H1 p = none → Q (.ref p) (upd H1 p (.tup xs.reverse))
theorem pe_revT {e : Expr} {te : TE} {k : Nat} {p1 p2 p3 pos : Pos} (he : PE X e te) : PE X (.Subscript e (.Slice none none (some (.UnaryOp .USub (.Constant (.int 1) k p1) p2)) p3) pos) (tRevT X.K te) := by
  refine ⟨fun pins s σ H Q I h => Subscript_ (thn (he.run pins s σ H _ I h) fun v s1 ⟨x, H1, I1, r1, q1⟩ => ?_)⟩
  obtain ⟨a, xs, rfl, hx, q⟩ := q1
  cases r1
  have hm : PO X (some (.UnaryOp .USub (.Constant (.int 1) k p1) p2)) (tPart (tUn (rU fun i => .int (-i)) (tC (.int 1)))) := po_some (pe_un un_neg pe_int)
  refine wpAny_Slice (thn (po_none.run pins s1 σ H1 (fun o H2 => o = none ∧ H2 = H1) I1 ⟨rfl, rfl⟩) ?_)
  rintro vl s2 ⟨_, _, I2, pl, rfl, rfl⟩
  refine thn (po_none.run pins s2 σ _ (fun o H3 => o = none ∧ H3 = _) I2 ⟨rfl, rfl⟩) ?_
  rintro vu s3 ⟨_, _, I3, pu, rfl, rfl⟩
  refine thn (hm.run pins s3 σ _ (fun o H4 => o = some (-1) ∧ H4 = _) I3 ⟨1, rfl, -1, rfl, rfl, rfl⟩) ?_
  rintro vs s4 ⟨_, H4, I4, ps, rfl, rfl⟩
  cases pl
  cases pu
  cases ps with
  | int _ u =>
    have I5 : Inv X pins σ H4 { s4 with heap := s4.heap.push { cls := .type "slice", data := .fields #[.none, .none, .int (-1) u] } } := I4.kept (t' := s4.toks) fun b ob z => Heap.get?_push_of_some _ z
    obtain ⟨its, r, ht, hz⟩ := I5.tuple hx
    show wpAny (model X.prog X.w) X.A (subscriptTail e (.Slice none none (some (.UnaryOp .USub (.Constant (.int 1) k p1) p2)) p3) (.ref a) (.ref s4.heap.objs.size)) (EP X pins σ Q) X.xe { s4 with heap := s4.heap.push { cls := .type "slice", data := .fields #[.none, .none, .int (-1) u] } }
    refine tail_any (ops := [.ref a, .ref s4.heap.objs.size]) ht.typeIs (PyProof.Rows.slot_tuple_getitem.lookup) ?_ (by with_unfolding_all rfl)
    refine rv_getItem ht (Heap.IsSliceOf.new _ .none .none (.int (-1) u)) ?_ (by rw [List.size_toArray]; exact r.length ▸ hz)
    exact ⟨.ref _, _, I5.laid (t' := s4.toks) (o := .tup xs.reverse) (fun b ob z => Heap.get?_push_of_some _ z) (Nat.le_refl _) ⟨by rw [List.length_reverse]; exact hz, _, r.reverse, IsTup.new _ _⟩, rfl, q _ (I5.hok.fresh (Nat.le_refl _))⟩
theorem pi_or {tg e : Expr} {u t : TI} (h1 : PI X tg e u) (h2 : PI X tg e t) : PI X tg e (fun σ H R => u σ H R ∨ t σ H R) :=
  ⟨fun pins s σ H R I h => h.elim (h1.run pins s σ H R I) (h2.run pins s σ H R I)⟩
end
theorem for_tupD {K : PySem.W.Frag} {a : Addr} {xs : List V} {g : TG} {tb : TS} {nx : L2.St → Hp → Prop} {rt : VK} {σ : L2.St} {H : Hp} (Pv : Nat → L2.St → Hp → Prop) (h0 : Pv 0 σ H) (hl : ∀ i σ H, i ≤ xs.length → Pv i σ H → SqT K H a xs)
    (hs : ∀ i x σ H, xs[i]? = some x → Pv i σ H → g x σ H fun σ2 H2 => tb { nx := Pv (i + 1), rt := rt, bk := nx, ct := Pv (i + 1) } σ2 H2) (hd : ∀ σ H, Pv xs.length σ H → nx σ H) :
    ∃ W : Nat → Nat → L2.St → Hp → Prop, (∃ m, W 0 m σ H) ∧ ∀ i m σ H, W i m σ H → ((Itt K a).stop i H ∧ nx σ H) ∨ ((Itt K a).go i H ∧ ∃ N : L2.St → Hp → Prop, (∀ σ' H', N σ' H' → ∃ m', m' < m ∧ W (i + 1) m' σ' H') ∧
      ∀ x H', (Itt K a).yld i H x H' → g x σ H' fun σ2 H2 => tb { nx := N, rt := rt, bk := nx, ct := N } σ2 H2) := for_tup (D := { nx := nx, rt := rt }) Pv h0 hl hs hd

/-! ### bytes of words: what the defs compute -/
def wb : Int → Nat → List Int
  | _, 0 => []
  | n, k + 1 => n % 256 :: wb (n / 256) k
def bw : List Int → Int
  | [] => 0
  | b :: r => bw r * 256 + b
def Bys (xs : List Int) : Prop := ∀ x ∈ xs, 0 ≤ x ∧ x ≤ 255
def Lst (H : Hp) (Q : VK) (xs : List Int) : Prop := ∀ p H', Same H H' → H p = none → H' p = some (.lst (xs.map V.int)) → Q (.ref p) H'
theorem wb_len : ∀ (k : Nat) (n : Int), (wb n k).length = k
  | 0, _ => rfl
  | k + 1, n => congrArg (· + 1) (wb_len k (n / 256))
theorem wb_bys : ∀ (k : Nat) (n : Int), Bys (wb n k)
  | 0, _ => fun _ h => nomatch h
  | k + 1, n => fun x h => by
    rcases List.mem_cons.mp h with rfl | h
    · omega
    · exact wb_bys k _ x h
theorem wb_snoc : ∀ (k : Nat) (n : Int), wb n (k + 1) = wb n k ++ [n / 256 ^ k % 256]
  | 0, n => by show [n % 256] = [n / 1 % 256]; rw [Int.ediv_one]
  | k + 1, n => by
    show n % 256 :: wb (n / 256) (k + 1) = n % 256 :: (wb (n / 256) k ++ _)
    rw [wb_snoc k (n / 256), Int.ediv_ediv_of_nonneg (by decide), Int.pow_succ, Int.mul_comm]
theorem bw_wb : ∀ (k : Nat) (n : Int), ∃ q, bw (wb n k) - n = q * 256 ^ k
  | 0, n => ⟨-n, by show 0 - n = -n * 1; omega⟩
  | k + 1, n => by
    obtain ⟨q, h⟩ := bw_wb k (n / 256)
    refine ⟨q, ?_⟩
    show bw (wb (n / 256) k) * 256 + n % 256 - n = _
    have e : bw (wb (n / 256) k) = q * 256 ^ k + n / 256 := by omega
    rw [e, Int.pow_succ, ← Int.mul_assoc, Int.add_mul]
    generalize q * 256 ^ k * 256 = z
    omega
theorem bw_mod (k : Nat) (n : Int) : (bw (wb n k) - n) % 2 ^ (8 * k) = 0 := by
  obtain ⟨q, h⟩ := bw_wb k n
  rw [h, Int.pow_mul]
  exact Int.mul_emod_left _ _
theorem bw_drop {xs : List Int} {i : Nat} (h : i < xs.length) : bw (xs.drop (xs.length - i - 1)) = bw (xs.drop (xs.length - i)) * 256 + xs.getD (xs.length - 1 - i) 0 := by
  have hi : xs.length - i - 1 < xs.length := by omega
  rw [List.drop_eq_getElem_cons hi, show xs.length - i - 1 + 1 = xs.length - i by omega, List.getD_eq_getElem?_getD, show xs.length - 1 - i = xs.length - i - 1 by omega, List.getElem?_eq_getElem hi]
  rfl
theorem bw_lt : ∀ (xs : List Int), Bys xs → 0 ≤ bw xs ∧ bw xs < 2 ^ (8 * xs.length)
  | [], _ => ⟨Int.le_refl _, by decide⟩
  | b :: r, h => by
    obtain ⟨i1, i2⟩ := bw_lt r fun x hx => h x (List.mem_cons_of_mem _ hx)
    obtain ⟨h1, h2⟩ := h b (List.mem_cons_self ..)
    show 0 ≤ bw r * 256 + b ∧ bw r * 256 + b < 2 ^ (8 * (r.length + 1))
    rw [show 8 * (r.length + 1) = 8 * r.length + 8 by omega, Int.pow_add]
    generalize (2 : Int) ^ (8 * r.length) = z at i2 ⊢
    rw [show (2 : Int) ^ 8 = 256 from rfl]
    omega
set_option exponentiation.threshold 2000 in
theorem bw_small {xs : List Int} (h : Bys xs) (hl : xs.length ≤ 63) : (bw xs).natAbs < 2 ^ 1000 := by
  obtain ⟨h1, h2⟩ := bw_lt xs h
  have h3 : (2 : Int) ^ (8 * xs.length) ≤ 2 ^ 1000 := by
    have := Nat.pow_le_pow_right (show 0 < 2 by decide) (show 8 * xs.length ≤ 1000 by omega)
    have := Int.ofNat_le.mpr this
    rw [PySem.W.kbt_cast, PySem.W.kbt_cast] at this
    exact this
  have h4 : bw xs < ((2 ^ 1000 : Nat) : Int) := by rw [PySem.W.kbt_cast]; exact Int.lt_of_lt_of_le h2 h3
  omega
theorem Bys.drop {xs : List Int} (h : Bys xs) (k : Nat) : Bys (xs.drop k) := fun x hx => h x (List.mem_of_mem_drop hx)
theorem Bys.snoc {xs : List Int} {b : Int} (h : Bys xs) (h0 : 0 ≤ b) (h1 : b ≤ 255) : Bys (xs ++ [b]) := fun x hx => by
  rcases List.mem_append.mp hx with hx | hx
  · exact h x hx
  · rw [List.mem_singleton] at hx; omega
def sp_word_bytes (K : PySem.W.Frag) (cs : Cs) : Sp := fun vs H Q _ => ∃ (n : Int) (k : Nat), vs = [.int n, .int k] ∧ k ≤ 8 ∧ Lst H Q (wb n k)
def sp_bytes_word (K : PySem.W.Frag) (cs : Cs) : Sp := fun vs H Q _ => ∃ (a : Addr) (xs : List Int), vs = [.ref a] ∧ (SqL K H a (xs.map V.int) ∨ SqT K H a (xs.map V.int)) ∧ Bys xs ∧ xs.length ≤ 63 ∧ ∀ H', Same H H' → Q (.int (bw xs)) H'
section
variable {P : Program} {w : World} {K : PySem.W.Frag} {mg : Str → Option Value} {base : Heap} {cs : Cs}
theorem c_word_bytes (D : Def K mg "word_bytes" s_word_bytes ["number", "count"]) (T : Tp w K mg cs)  : Cal P w K mg base CX0 1 "word_bytes" (sp_word_bytes K cs) := by
  refine D.ok sc_word_bytes (fun vs H Q E h => ?_) (fun f cdv A outer s H vs Q E hr h => ?_)
  · obtain ⟨n, k, rfl, _⟩ := h; rfl
  · obtain ⟨n, k, rfl, hk, q⟩ := h
    refine ⟨_, (pss_cons (ps_set (i := 2) sc_word_bytes.nd rfl (by first | exact Or.inl rfl | exact Or.inr rfl) (pe_lst pa_nil))
      (pss_cons (ps_for PassesOwn.never rfl (pi_range1 (by rfl) T.m_range (pa_cons (pv 1) pa_nil)) (pg_name (i := 3) sc_word_bytes.nd rfl (by first | exact Or.inl rfl | exact Or.inr rfl)) (pss_cons (ps_expr (pe_bm PySem.F.plainAttrs_list PySem.F.slot_list_append PySem.F.type_list_append mt_append (pv 2) (pa_cons (pe_op op_and (pv 0) pe_int) pa_nil)))
      (pss_one (ps_set (i := 0) sc_word_bytes.nd rfl (by first | exact Or.inl rfl | exact Or.inr rfl) (pe_op op_shr (pv 0) pe_int)))))
      (pss_one (ps_ret (pv 2))))), ?_⟩
    refine ⟨Nat.zero_le _, fun p hp => ?_⟩
    walk_at "go"
    refine for_rangeD (lo := 0) (n := k) (fun i σ H2 => ∃ o, σ = [some (.int (n / 256 ^ i)), some (.int k), some (.ref p), o] ∧ Same H H2 ∧ H2 p = some (.lst ((wb n i).map V.int))) ⟨none, by rw [show (256 : Int) ^ 0 = 1 from rfl, Int.ediv_one]; rfl, Same.new hp, upd_same⟩ ?_ ?_
    · rintro i _ H2 hi ⟨o, rfl, s2, hl⟩
      refine ⟨_, rfl, .inl ⟨rfl, _, SqL.of hl⟩, ?_⟩
      walk_at "go"
      refine ⟨_, _, _, rfl, rfl, hl, (by rw [List.length_map, wb_len]; exact small64' (by omega)), ?_⟩
      walk_at "go"
      simp only [show Builtin.bitAnd (n / 256 ^ i) 255 = n / 256 ^ i % 256 from PySem.W.kbt_mask _ 8]
      refine ⟨some (.int (0 + (i : Int))), ?_, fun b o e => ?_, ?_⟩
      · rw [Int.pow_succ, ← Int.ediv_ediv_of_nonneg (Int.le_of_lt (Int.pow_pos (by decide)))]; rfl
      · rw [upd_ne (ne_of_none e hp)]; exact s2 _ _ e
      · rw [upd_same, wb_snoc, List.map_append]; rfl
    · rintro _ H2 ⟨o, rfl, s2, hl⟩
      exact ⟨_, rfl, q p H2 s2 hp hl⟩
theorem c_bytes_word (D : Def K mg "bytes_word" s_bytes_word ["data"]) (T : Tp w K mg cs)  : Cal P w K mg base CX0 1 "bytes_word" (sp_bytes_word K cs) := by
  refine D.ok sc_bytes_word (fun vs H Q E h => ?_) (fun f cdv A outer s H vs Q E hr h => ?_)
  · obtain ⟨a, xs, rfl, _⟩ := h; rfl
  · obtain ⟨a, xs, rfl, hS, hB, hl, q⟩ := h
    refine ⟨_, (pss_cons (ps_set (i := 1) sc_bytes_word.nd rfl (by first | exact Or.inl rfl | exact Or.inr rfl) pe_int)
      (pss_cons (ps_for PassesOwn.never rfl (pi_or (pi_list (pe_revL (pv 0))) (pi_tup (pe_revT (pv 0)))) (pg_name (i := 2) sc_bytes_word.nd rfl (by first | exact Or.inl rfl | exact Or.inr rfl)) (pss_one (ps_set (i := 1) sc_bytes_word.nd rfl (by first | exact Or.inl rfl | exact Or.inr rfl) (pe_op op_add (pe_op op_shlS (pv 1) pe_int) (pv 2)))))
      (pss_one (ps_ret (pv 1))))), ?_⟩
    have key : ∀ (i : Nat) (x : V), (xs.map V.int).reverse[i]? = some x → x = .int (xs.getD (xs.length - 1 - i) 0) ∧ i < xs.length := by
      intro i x hx
      have hi : i < xs.length := by have := (List.getElem?_eq_some_iff.mp hx).1; rw [List.length_reverse, List.length_map] at this; exact this
      rw [List.getElem?_reverse (by rw [List.length_map]; exact hi), List.length_map, List.getElem?_map, List.getElem?_eq_getElem (show xs.length - 1 - i < xs.length by omega)] at hx
      cases hx
      rw [List.getD_eq_getElem?_getD, List.getElem?_eq_getElem (show xs.length - 1 - i < xs.length by omega)]
      exact ⟨rfl, hi⟩
    have step : ∀ (i : Nat) (x : V) (Q : VK) (H2 : Hp), (xs.map V.int).reverse[i]? = some x → Q (.int (bw (xs.drop (xs.length - (i + 1))))) H2 → ∃ j, x = .int j ∧ i < xs.length ∧ (bw (xs.drop (xs.length - i))).natAbs < 2 ^ 1000 ∧ Q (.int (bw (xs.drop (xs.length - i)) * 2 ^ 8 + j)) H2 := by
      intro i x Q H2 hx h
      obtain ⟨rfl, hi⟩ := key i x hx
      refine ⟨_, rfl, hi, bw_small (hB.drop _) (by rw [List.length_drop]; omega), ?_⟩
      rw [show xs.length - (i + 1) = xs.length - i - 1 by omega, bw_drop hi] at h
      exact h
    rcases hS with hS | hT
    · refine .inl ⟨_, rfl, a, _, rfl, hS, fun p hp => ⟨p, rfl, ⟨_, SqL.new⟩, ?_⟩⟩
      refine for_listD (K := K) (a := p) (xs := (xs.map V.int).reverse) (fun i σ H2 => ∃ o, σ = [some (.ref a), some (.int (bw (xs.drop (xs.length - i)))), o] ∧ H2 = upd H p (.lst (xs.map V.int).reverse)) ⟨_, by rw [List.drop_of_length_le (by omega)]; rfl, rfl⟩ (fun i σ H2 _ h => by obtain ⟨o, _, rfl⟩ := h; exact SqL.new) ?_ ?_
      · rintro i x _ H2 hx ⟨o, rfl, rfl⟩
        obtain ⟨j, rfl, hi, hc, e⟩ := step i x (fun v _ => v = .int (bw (xs.drop (xs.length - (i + 1))))) H hx rfl
        walk_at "go"
        refine ⟨⟨hc, by decide, by decide⟩, ?_⟩
        walk_at "go"
        exact ⟨_, by rw [← e]; rfl, rfl⟩
      · rintro _ H2 ⟨o, rfl, rfl⟩
        rw [List.length_reverse, List.length_map, Nat.sub_self, List.drop_zero]
        exact ⟨_, rfl, q _ (Same.new hp)⟩
    · refine .inr ⟨_, rfl, a, _, rfl, hT, fun p hp => ⟨p, rfl, ⟨_, SqT.new⟩, ?_⟩⟩
      refine for_tupD (K := K) (a := p) (xs := (xs.map V.int).reverse) (fun i σ H2 => ∃ o, σ = [some (.ref a), some (.int (bw (xs.drop (xs.length - i)))), o] ∧ H2 = upd H p (.tup (xs.map V.int).reverse)) ⟨_, by rw [List.drop_of_length_le (by omega)]; rfl, rfl⟩ (fun i σ H2 _ h => by obtain ⟨o, _, rfl⟩ := h; exact SqT.new) ?_ ?_
      · rintro i x _ H2 hx ⟨o, rfl, rfl⟩
        obtain ⟨j, rfl, hi, hc, e⟩ := step i x (fun v _ => v = .int (bw (xs.drop (xs.length - (i + 1))))) H hx rfl
        walk_at "go"
        refine ⟨⟨hc, by decide, by decide⟩, ?_⟩
        walk_at "go"
        exact ⟨_, by rw [← e]; rfl, rfl⟩
      · rintro _ H2 ⟨o, rfl, rfl⟩
        rw [List.length_reverse, List.length_map, Nat.sub_self, List.drop_zero]
        exact ⟨_, rfl, q _ (Same.new hp)⟩

def sp__law_is_integer (K : PySem.W.Frag) (cs : Cs) : Sp := fun vs H Q _ => ∃ n : Int, vs = [.int n] ∧ Q (.bl true) H
def sp__law_cell (K : PySem.W.Frag) (cs : Cs) : Sp := fun vs H Q _ => ∃ (a : Addr) (ns : List Int) (k : Nat), vs = [.ref a, .int k] ∧ SqL K H a (ns.map V.int) ∧ Q (.int (ns.getD k 0)) H
def sp__law_number (K : PySem.W.Frag) (cs : Cs) : Sp := fun vs H Q _ => ∃ (a : Addr) (xs : List Int), vs = [.ref a] ∧ SqL K H a (xs.map V.int) ∧ xs.length ≤ 63 ∧ Q (.int (bw xs)) H
def sp__law_bytes (K : PySem.W.Frag) (cs : Cs) : Sp := fun vs H Q _ => ∃ (a : Addr) (ns : List Int), vs = [.ref a] ∧ SqL K H a (ns.map V.int) ∧ ns.length ≤ 63 ∧ ∀ (xs : List Int), Bys xs → xs.length ≤ 63 → Lst H Q xs
def sp__law_written (K : PySem.W.Frag) (cs : Cs) : Sp := fun vs H Q _ => ∃ (n : Int) (k : Nat), vs = [.int n, .int k] ∧ k ≤ 8 ∧ ∀ H', Same H H' → Q (.bl true) H'
def sp_lawK (K : PySem.W.Frag) : Sp := fun vs H Q _ => ∃ (a : Addr) (ns : List Int), vs = [.ref a] ∧ SqL K H a (ns.map V.int) ∧ ns.length ≤ 63 ∧ ∀ H', Q (.bl true) H'
abbrev sp_law (K : PySem.W.Frag) (_ : Cs) : Sp := sp_lawK K
theorem c__law_is_integer (D : Def K mg "_law_is_integer" s__law_is_integer ["actual"]) (T : Tp w K mg cs)  : Cal P w K mg base CX0 1 "_law_is_integer" (sp__law_is_integer K cs) := by
  refine D.ok sc__law_is_integer (fun vs H Q E h => ?_) (fun f cdv A outer s H vs Q E hr h => ?_)
  · obtain ⟨n, rfl, _⟩ := h; rfl
  · obtain ⟨n, rfl, q⟩ := h
    refine ⟨_, (pss_one (ps_ret (pe_and (pe_callB call_isi (by rfl) T.m_isinstance (by decide +kernel) (pa_cons (pv 0) (pa_cons (pe_bltn (v := .ty "int") (u := .type "int") (by rfl) T.m_int (by decide +kernel) rfl) pa_nil))) (pe_one (pe_not (pe_callB call_isi (by rfl) T.m_isinstance (by decide +kernel) (pa_cons (pv 0) (pa_cons (pe_bltn (v := .ty "bool") (u := .type "bool") (by rfl) T.m_bool (by decide +kernel) rfl) pa_nil)))))))), ?_⟩
    walk_at "go"
    exact q
theorem c__law_cell (D : Def K mg "_law_cell" s__law_cell ["script", "k"]) (T : Tp w K mg cs)  : Cal P w K mg base CX0 1 "_law_cell" (sp__law_cell K cs) := by
  refine D.ok sc__law_cell (fun vs H Q E h => ?_) (fun f cdv A outer s H vs Q E hr h => ?_)
  · obtain ⟨a, ns, k, rfl, _⟩ := h; rfl
  · obtain ⟨a, ns, k, rfl, hS, q⟩ := h
    refine ⟨_, (pss_cons (ps_if (pt_cmpR op_lt (pv 1) (pe_callB call_len_seq (by rfl) T.m_len PySem.boot_len (pa_cons (pv 0) pa_nil)) (by first | rfl | exact nomark _)) (pss_one (ps_ret (pe_callTy call_int1 (by rfl) T.m_int (by decide +kernel) (pa_cons (pe_ix ix_list (pv 0) (pv 1) (fun _ _ => rfl)) pa_nil)))) pss_nil)
      (pss_one (ps_ret pe_int))), ?_⟩
    walk_at "go"
    simp only [List.length_map]
    refine ite2 (fun c => ?_) (fun c => ?_)
    · have c' : (k : Int) < ns.length := of_decide_eq_true c
      walk_at "go"
      exact q
    · have c' : ¬ (k : Int) < ns.length := of_decide_eq_false (Bool.eq_false_iff.mpr c)
      rw [List.getD_eq_getElem?_getD, List.getElem?_eq_none (by omega)] at q
      exact q
theorem c__law_number (D : Def K mg "_law_number" s__law_number ["data"]) (T : Tp w K mg cs)  : Cal P w K mg base CX0 1 "_law_number" (sp__law_number K cs) := by
  refine D.ok sc__law_number (fun vs H Q E h => ?_) (fun f cdv A outer s H vs Q E hr h => ?_)
  · obtain ⟨a, xs, rfl, _⟩ := h; rfl
  · obtain ⟨a, xs, rfl, hS, hl, q⟩ := h
    refine ⟨_, (pss_cons (ps_set (i := 1) sc__law_number.nd rfl (by first | exact Or.inl rfl | exact Or.inr rfl) pe_int)
      (pss_cons (ps_for PassesOwn.never rfl (pi_range1 (by rfl) T.m_range (pa_cons (pe_callB call_len_seq (by rfl) T.m_len PySem.boot_len (pa_cons (pv 0) pa_nil)) pa_nil)) (pg_name (i := 2) sc__law_number.nd rfl (by first | exact Or.inl rfl | exact Or.inr rfl)) (pss_one (ps_set (i := 1) sc__law_number.nd rfl (by first | exact Or.inl rfl | exact Or.inr rfl) (pe_op op_add (pe_op op_mul (pv 1) pe_int) (pe_ix ix_list (pv 0) (pe_op op_sub (pe_op op_sub (pe_callB call_len_seq (by rfl) T.m_len PySem.boot_len (pa_cons (pv 0) pa_nil)) pe_int) (pv 2)) (fun _ _ => rfl))))))
      (pss_one (ps_ret (pv 1))))), ?_⟩
    refine ⟨_, rfl, a, _, rfl, .inl hS, ?_⟩
    rw [List.length_map]
    refine ⟨_, rfl, by omega, by omega, ?_⟩
    refine for_rangeD (lo := 0) (n := xs.length) (fun i σ H2 => H2 = H ∧ ∃ o, σ = [some (.ref a), some (.int (bw (xs.drop (xs.length - i)))), o]) ⟨rfl, none, by rw [List.drop_of_length_le (by omega)]; rfl⟩ ?_ ?_
    · rintro i _ H2 hi ⟨rfl, o, rfl⟩
      rw [Int.zero_add]
      have ei : ((xs.map V.int).length : Int) - 1 - (i : Int) = ((xs.length - 1 - i : Nat) : Int) := by rw [List.length_map]; omega
      have hx : xs.length - 1 - i < xs.length := by omega
      walk_at "go"
      simp only [ei]
      walk_at "go"
      refine ⟨some (.int i), ?_⟩
      rw [show xs.length - (i + 1) = xs.length - i - 1 by omega, bw_drop hi]; rfl
    · rintro _ H2 ⟨rfl, o, rfl⟩
      rw [Nat.sub_self, List.drop_zero]
      exact ⟨_, rfl, q⟩
theorem c__law_bytes (D : Def K mg "_law_bytes" s__law_bytes ["script"]) (T : Tp w K mg cs) (c__law_cell : Cal P w K mg base CX0 1 "_law_cell" (sp__law_cell K cs)) : Cal P w K mg base CX0 2 "_law_bytes" (sp__law_bytes K cs) := by
  refine D.ok sc__law_bytes (fun vs H Q E h => ?_) (fun f cdv A outer s H vs Q E hr h => ?_)
  · obtain ⟨a, ns, rfl, _⟩ := h; rfl
  · obtain ⟨a, ns, rfl, hS, hlen, q⟩ := h
    refine ⟨_, (pss_cons (ps_if (pt_cmpR op_ge (pe_c c__law_cell hr (by decide) (by rfl) (pa_cons (pv 0) (pa_cons pe_int pa_nil))) pe_int (by first | rfl | exact nomark _)) (pss_one (ps_ret (pe_lc (own := [("cell", 4)]) (g := gName 4) (tt := tYes) (by rfl) sc__law_bytes.nd (pi_list (pe_slice sl_list (pv 0) (po_some pe_int) (po_some pe_int))) (blkOk_by (own := [("cell", 4)]) (N := ["script", "data", "rest", "k", "cell"]) (sc := defScope s__law_bytes) (by decide +kernel)) (fun _ _ _ _ _ => (pg_name (i := 4) sc__law_bytes.nd rfl (by first | exact Or.inl rfl | exact Or.inr rfl))) (fun _ _ _ _ _ => pts_nil) (fun _ _ _ _ _ => (pe_op op_mod (pe_callTy call_int1 (by rfl) T.m_int (by decide +kernel) (pa_cons (pv 4) pa_nil)) pe_int))))) pss_nil)
      (pss_cons (ps_set (i := 1) sc__law_bytes.nd rfl (by first | exact Or.inl rfl | exact Or.inr rfl) (pe_lst pa_nil))
      (pss_cons (ps_set (i := 2) sc__law_bytes.nd rfl (by first | exact Or.inl rfl | exact Or.inr rfl) (pe_c c__law_cell hr (by decide) (by rfl) (pa_cons (pv 0) (pa_cons pe_int pa_nil))))
      (pss_cons (ps_for PassesOwn.never rfl (pi_range1 (by rfl) T.m_range (pa_cons pe_int pa_nil)) (pg_name (i := 3) sc__law_bytes.nd rfl (by first | exact Or.inl rfl | exact Or.inr rfl)) (pss_one (ps_if (pt_cmpR op_gt (pv 2) pe_int (by first | rfl | exact nomark _)) (pss_cons (ps_expr (pe_bm PySem.F.plainAttrs_list PySem.F.slot_list_append PySem.F.type_list_append mt_append (pv 1) (pa_cons (pe_op op_mod (pe_callTy call_int1 (by rfl) T.m_int (by decide +kernel) (pa_cons (pv 2) pa_nil)) pe_int) pa_nil)))
      (pss_one (ps_set (i := 2) sc__law_bytes.nd rfl (by first | exact Or.inl rfl | exact Or.inr rfl) (pe_op op_fdiv (pv 2) pe_int)))) pss_nil)))
      (pss_one (ps_ret (pv 1))))))), ?_⟩
    walk_at "go"
    refine ⟨a, ns, 0, rfl, hS, ?_⟩
    walk_at "go"
    refine ite2 (fun c => ?_) (fun c => ?_)
    · walk_at "go"
      obtain ⟨ms, em, hm⟩ : ∃ ms : List Int, cutV (ns.map V.int) (some 1) (some 64) = ms.map V.int ∧ ms.length ≤ 63 := by
        refine ⟨(ns.drop (HT.sIx ns.length 0 (some 1))).take (HT.sIx ns.length ns.length (some 64) - HT.sIx ns.length 0 (some 1)), ?_, by rw [List.length_take, List.length_drop]; omega⟩
        unfold cutV
        rw [List.length_map, List.map_take, List.map_drop]
      refine ⟨a, _, rfl, hS, fun p hp => ?_⟩
      rw [em]
      refine ⟨p, rfl, ⟨_, SqL.new⟩, fun D hD => lc_map (j := 4) (f := fun v => match v with | .int i => .int (i % 256) | v => v) hD SqL.new (by rw [List.length_map]; omega) (fun x H2 Q2 hx s2 q2 => ?_) (fun H2 s2 hD2 => ?_)⟩
      · obtain ⟨m, _, rfl⟩ := List.mem_map.mp hx
        walk_at "go"
        exact q2 _ (Same.refl _)
      · refine q (ms.map (· % 256)) (fun x hx => ?_) (by rw [List.length_map]; exact hm) D H2 ((Same.new hp).trans s2) ?_ ?_
        · obtain ⟨m, _, rfl⟩ := List.mem_map.mp hx
          omega
        · rcases hh : H D with _ | o
          · rfl
          · have := Same.new (o := .lst (ms.map V.int)) hp _ _ hh
            rw [hD] at this; cases this
        · rw [hD2, List.map_map, List.map_map]; rfl
    · walk_at "go"
      intro p hp
      walk_at "go"
      refine ⟨a, ns, 1, rfl, (Same.new hp).seq hS, ?_⟩
      walk_at "go"
      refine for_rangeD (lo := 0) (n := 62) (fun i σ H2 => ∃ (f : Int) (acc : List Int) (o : Option V), σ = [some (.ref a), some (.ref p), some (.int f), o, none] ∧ Bys acc ∧ acc.length ≤ i ∧ Same H H2 ∧ H2 p = some (.lst (acc.map V.int)))
        ⟨_, [], none, rfl, (fun _ h => nomatch h), Nat.le_refl _, Same.new hp, upd_same⟩ ?_ ?_
      · rintro i _ H2 hi ⟨f, acc, o, rfl, hB, hl, s2, hd⟩
        walk_at "go"
        refine ite2 (fun c => ?_) (fun c => ?_)
        · refine ⟨_, rfl, .inl ⟨rfl, _, SqL.of hd⟩, ?_⟩
          walk_at "go"
          refine ⟨_, _, _, rfl, rfl, hd, (by rw [List.length_map]; exact small64' (by omega)), ?_⟩
          walk_at "go"
          refine ⟨_, acc ++ [f % 256], _, rfl, hB.snoc (by omega) (by omega), by rw [List.length_append]; show acc.length + 1 ≤ i + 1; omega, fun b o e => ?_, ?_⟩
          · rw [upd_ne (ne_of_none e hp)]; exact s2 _ _ e
          · rw [upd_same, List.map_append]; rfl
        · exact ⟨_, acc, _, rfl, hB, by omega, s2, hd⟩
      · rintro _ H2 ⟨f, acc, o, rfl, hB, hl, s2, hd⟩
        exact ⟨_, rfl, q acc hB (by omega) p H2 s2 hp hd⟩
theorem c__law_written (D : Def K mg "_law_written" s__law_written ["number", "count"]) (T : Tp w K mg cs) (c_word_bytes : Cal P w K mg base CX0 1 "word_bytes" (sp_word_bytes K cs)) (c_bytes_word : Cal P w K mg base CX0 1 "bytes_word" (sp_bytes_word K cs)) (c__law_is_integer : Cal P w K mg base CX0 1 "_law_is_integer" (sp__law_is_integer K cs)) (c__law_number : Cal P w K mg base CX0 1 "_law_number" (sp__law_number K cs)) : Cal P w K mg base CX0 2 "_law_written" (sp__law_written K cs) := by
  refine D.ok sc__law_written (fun vs H Q E h => ?_) (fun f cdv A outer s H vs Q E hr h => ?_)
  · obtain ⟨n, k, rfl, _⟩ := h; rfl
  · obtain ⟨n, k, rfl, hk, q⟩ := h
    refine ⟨_, (pss_cons (ps_set (i := 2) sc__law_written.nd rfl (by first | exact Or.inl rfl | exact Or.inr rfl) (pe_c c_word_bytes hr (by decide) (by rfl) (pa_cons (pv 0) (pa_cons (pv 1) pa_nil))))
      (C8.pss_cut (ps_if (PW.pt (pw_or (pt_not (pt_val (pe_callB call_isi (by rfl) T.m_isinstance (by decide +kernel) (pa_cons (pv 2) (pa_cons (pe_bltn (v := .ty "list") (u := .type "list") (by rfl) T.m_list (by decide +kernel) rfl) pa_nil))))) (pw_or1 (pt_cmpR op_ne (pe_callB call_len_seq (by rfl) T.m_len PySem.boot_len (pa_cons (pv 2) pa_nil)) (pv 1) (by first | rfl | exact nomark _))))) (pss_one (ps_ret pe_bl)) pss_nil)
      (pss_cons (ps_for PassesOwn.never rfl (pi_list (pv 2)) (pg_name (i := 3) sc__law_written.nd rfl (by first | exact Or.inl rfl | exact Or.inr rfl)) (pss_one (ps_if (PW.pt (pw_or (pt_not (pt_val (pe_c c__law_is_integer hr (by decide) (by rfl) (pa_cons (pv 3) pa_nil)))) (pw_or (pt_cmpR op_lt (pv 3) pe_int (by first | rfl | exact nomark _)) (pw_or1 (pt_cmpR op_gt (pv 3) pe_int (by first | rfl | exact nomark _)))))) (pss_one (ps_ret pe_bl)) pss_nil)))
      (pss_cons (ps_if (pt_cmpR op_ne (pe_op op_mod (pe_callTy call_int1 (by rfl) T.m_int (by decide +kernel) (pa_cons (pe_op op_sub (pe_c c__law_number hr (by decide) (by rfl) (pa_cons (pv 2) pa_nil)) (pv 0)) pa_nil)) (pe_op op_shl1 pe_int (pe_op op_mul pe_int (pv 1)))) pe_int (by first | rfl | exact nomark _)) (pss_one (ps_ret pe_bl)) pss_nil)
      (pss_cons (ps_set (i := 4) sc__law_written.nd rfl (by first | exact Or.inl rfl | exact Or.inr rfl) (pe_c c_bytes_word hr (by decide) (by rfl) (pa_cons (pe_callTy call_list_of (by rfl) T.m_list (by decide +kernel) (pa_cons (pv 2) pa_nil)) pa_nil)))
      (pss_one (ps_ret (pe_and (pe_c c__law_is_integer hr (by decide) (by rfl) (pa_cons (pv 4) pa_nil)) (pe_one (pe_cmpR op_eq (pv 4) (pe_c c__law_number hr (by decide) (by rfl) (pa_cons (pv 2) pa_nil)) (by first | rfl | exact nomark _))))))))))), ?_⟩
    walk_at "go"
    intro p H1 s1 hp0 hp
    have hS : SqL K H1 p ((wb n k).map V.int) := SqL.of hp
    refine ⟨fun σ H2 => H1 = H2 ∧ σ = [some (.int n), some (.int k), some (.ref p), none, none], ?_, ?_⟩
    · refine tor_b false false (fun Q q => by walk_at "go"; exact q) (fun Q q => by walk_at "go"; simp only [List.length_map, wb_len]; exact q) ?_
      exact ⟨rfl, rfl⟩
    rintro _ _ ⟨rfl, rfl⟩
    walk_at "go"
    refine ⟨⟨_, hS⟩, for_listD (K := K) (a := p) (xs := (wb n k).map V.int) (fun i σ H2 => H2 = H1 ∧ ∃ o, σ = [some (.int n), some (.int k), some (.ref p), o, none]) ⟨rfl, _, rfl⟩ (fun i σ H2 _ h => by obtain ⟨rfl, _⟩ := h; exact hS) ?_ ?_⟩
    · rintro i x _ H2 hx ⟨rfl, o, rfl⟩
      obtain ⟨b, hb, rfl⟩ := List.mem_map.mp (List.mem_of_getElem? hx)
      obtain ⟨hb0, hb1⟩ := wb_bys k n b hb
      refine tor_b false false (fun Q q => by walk_at "go"; exact q) (fun Q q => tor_b false false (fun Q q => by walk_at "go"; simp only [decide_eq_false (show ¬ b < 0 by omega)]; exact q) (fun Q q => by walk_at "go"; simp only [decide_eq_false (show ¬ 255 < b by omega)]; exact q) q) ?_
      exact ⟨rfl, _, rfl⟩
    rintro _ H2 ⟨rfl, o, rfl⟩
    have e8 : (8 * (k : Int)).toNat = 8 * k := by omega
    have hl : (wb n k).length ≤ 63 := by rw [wb_len]; omega
    have hp8 := pow_pos2 (8 * k)
    walk_at "go"
    refine ⟨p, wb n k, rfl, hS, hl, ?_⟩
    walk_at "go"
    simp only [e8]
    walk_at "go"
    simp only [bw_mod]
    walk_at "go"
    intro l hl2
    walk_at "go"
    refine ⟨l, wb n k, rfl, .inl SqL.new, wb_bys k n, hl, fun H3 s3 => ?_⟩
    have s4 : Same H2 H3 := (Same.new hl2).trans s3
    have hS4 := s4.seq hS
    walk_at "go"
    refine ⟨p, wb n k, rfl, hS4, hl, ?_⟩
    walk_at "go"
    have e : decide (V.int (bw (wb n k)) = V.int (bw (wb n k))) = true := decide_eq_true rfl
    show Q (.bl (decide (V.int (bw (wb n k)) = V.int (bw (wb n k))))) H3
    rw [e]
    exact q _ (s1.trans s4)
theorem c_law {f : Addr} {fd : FuncData} (D : L2.Fun K "law" "law" s_law f fd) (T : Tp w K mg cs) (c__law_cell : Cal P w K mg base CX0 1 "_law_cell" (sp__law_cell K cs)) (c__law_bytes : Cal P w K mg base CX0 2 "_law_bytes" (sp__law_bytes K cs)) (c_bytes_word : Cal P w K mg base CX0 1 "bytes_word" (sp_bytes_word K cs)) (c__law_is_integer : Cal P w K mg base CX0 1 "_law_is_integer" (sp__law_is_integer K cs)) (c__law_number : Cal P w K mg base CX0 1 "_law_number" (sp__law_number K cs)) (c__law_written : Cal P w K mg base CX0 2 "_law_written" (sp__law_written K cs)) : FnOk P w K mg base CX0 3 f fd ["script"] (sp_law K cs) := by
  refine D.ok sc_law (fun vs H Q E h => ?_) (fun cdv A outer s H vs Q E hr h => ?_)
  · obtain ⟨a, ns, rfl, _⟩ := h; rfl
  · obtain ⟨a, ns, rfl, hS, hlen, q⟩ := h
    refine ⟨_, (pss_cons (ps_set (i := 1) sc_law.nd rfl (by first | exact Or.inl rfl | exact Or.inr rfl) (pe_c c__law_cell hr (by decide) (by rfl) (pa_cons (pv 0) (pa_cons pe_int pa_nil))))
      (pss_cons (ps_for PassesOwn.never rfl (pi_range1 (by rfl) T.m_range (pa_cons pe_int pa_nil)) (pg_name (i := 2) sc_law.nd rfl (by first | exact Or.inl rfl | exact Or.inr rfl)) (pss_one (ps_if (PW.pt (pw_or (pt_not (pt_val (pe_c c__law_written hr (by decide) (by rfl) (pa_cons (pv 1) (pa_cons (pv 2) pa_nil))))) (pw_or1 (pt_not (pt_val (pe_c c__law_written hr (by decide) (by rfl) (pa_cons (pe_op op_sub (pe_c c__law_cell hr (by decide) (by rfl) (pa_cons (pv 0) (pa_cons pe_int pa_nil))) pe_int) (pa_cons (pv 2) pa_nil)))))))) (pss_one (ps_ret pe_bl)) pss_nil)))
      (pss_cons (ps_set (i := 3) sc_law.nd rfl (by first | exact Or.inl rfl | exact Or.inr rfl) (pe_c c__law_bytes hr (by decide) (by rfl) (pa_cons (pv 0) pa_nil)))
      (pss_cons (ps_set (i := 4) sc_law.nd rfl (by first | exact Or.inl rfl | exact Or.inr rfl) (pe_callTy call_list_of (by rfl) T.m_list (by decide +kernel) (pa_cons (pv 3) pa_nil)))
      (pss_cons (ps_set (i := 5) sc_law.nd rfl (by first | exact Or.inl rfl | exact Or.inr rfl) (pe_c c_bytes_word hr (by decide) (by rfl) (pa_cons (pv 4) pa_nil)))
      (pss_cons (ps_set (i := 6) sc_law.nd rfl (by first | exact Or.inl rfl | exact Or.inr rfl) (pe_c c_bytes_word hr (by decide) (by rfl) (pa_cons (pe_callTy call_tuple_of (by rfl) T.m_tuple (by decide +kernel) (pa_cons (pv 3) pa_nil)) pa_nil)))
      (pss_cons (ps_if (PW.pt (pw_or (pt_not (pt_val (pe_c c__law_is_integer hr (by decide) (by rfl) (pa_cons (pv 5) pa_nil)))) (pw_or1 (pt_not (pt_val (pe_c c__law_is_integer hr (by decide) (by rfl) (pa_cons (pv 6) pa_nil))))))) (pss_one (ps_ret pe_bl)) pss_nil)
      (pss_one (ps_ret (pe_and (pe_cmpR op_eq (pv 5) (pe_c c__law_number hr (by decide) (by rfl) (pa_cons (pv 3) pa_nil)) (by first | rfl | exact nomark _)) (pe_and (pe_cmpR op_eq (pv 6) (pv 5) (by first | rfl | exact nomark _)) (pe_one (pe_cmpR (op_eqD (hu64 hr)) (pv 4) (pv 3) (by first | rfl | exact nomark _)))))))))))))), ?_⟩
    walk_at "go"
    refine ⟨a, ns, 0, rfl, hS, ?_⟩
    walk_at "go"
    refine for_rangeD (lo := 0) (n := 9) (fun i σ H2 => Same H H2 ∧ ∃ o, σ = [some (.ref a), some (.int (ns.getD 0 0)), o, none, none, none, none]) ⟨Same.refl _, none, rfl⟩ ?_ ?_
    · rintro i _ H2 hi ⟨s2, o, rfl⟩
      rw [Int.zero_add]
      walk_at "go"
      intro H3 s3
      walk_at "go"
      have hS3 := (s2.trans s3).seq hS
      refine ⟨a, ns, 1, rfl, hS3, ?_⟩
      walk_at "go"
      intro H4 s4
      walk_at "go"
      exact ⟨s2.trans (s3.trans s4), _, rfl⟩
    · rintro _ H2 ⟨s2, o, rfl⟩
      walk_at "go"
      refine ⟨a, ns, rfl, s2.seq hS, hlen, fun xs hB hxl p H3 s3 hp0 hp => ?_⟩
      have hSp : SqL K H3 p (xs.map V.int) := SqL.of hp
      walk_at "go"
      intro l hl2
      have hl4 : (upd H3 l (.lst (xs.map V.int))) l = some (.lst (xs.map V.int)) := upd_same
      have s4 := Same.new (o := .lst (xs.map V.int)) hl2
      generalize upd H3 l (.lst (xs.map V.int)) = H4 at s4 hl4 ⊢
      have hSl : SqL K H4 l (xs.map V.int) := SqL.of hl4
      walk_at "go"
      intro H5 s5
      have hSp5 := (s4.trans s5).seq hSp
      have hSl5 := s5.seq hSl
      walk_at "go"
      refine ⟨p, _, rfl, .inl ⟨hSp5, fun t ht => ?_⟩⟩
      have ht6 : (upd H5 t (.tup (xs.map V.int))) t = some (.tup (xs.map V.int)) := upd_same
      have s6 := Same.new (o := .tup (xs.map V.int)) ht
      generalize upd H5 t (.tup (xs.map V.int)) = H6 at s6 ht6 ⊢
      refine ⟨t, xs, rfl, .inr (SqT.of ht6), hB, hxl, fun H7 s7 => ?_⟩
      have hSp7 := (s6.trans s7).seq hSp5
      have hSl7 := (s6.trans s7).seq hSl5
      walk_at "go"
      have e : decide (V.int (bw xs) = V.int (bw xs)) = true := decide_eq_true rfl
      refine ⟨p, xs, rfl, hSp7, hxl, ?_⟩
      walk_at "go"
      simp only [e]
      walk_at "go"
      simp only [e]
      walk_at "go"
      exact eqD_same (dp_ints hSl7) (dp_ints hSp7) (shaped_ints xs) (q _)
end
theorem all_mk {l : PySem.W.OpenLaw} {w : World} {K : PySem.W.Frag} {h : Heap} {mg : Str → Option Value} {fa f0 f1 f2 f3 f4 f5 f6 f7 : Addr} (X : K.In h) (G : h.Ns mainGlobals mg) (hfa : mg "law" = some (.ref fa))
    {od0 an0 od1 an1 od2 an2 od3 an3 od4 an4 od5 an5 od6 an6 od7 an7 : Option Addr} {sl0 sl1 sl2 sl3 sl4 sl5 sl6 sl7 : Array (Option Value)} {oc0 kV0 dc0 pm0 cd0 ct0 oc1 kV1 dc1 pm1 cd1 ct1 oc2 kV2 dc2 pm2 cd2 ct2 oc3 kV3 dc3 pm3 cd3 ct3 oc4 kV4 dc4 pm4 cd4 ct4 oc5 kV5 dc5 pm5 cd5 ct5 oc6 kV6 dc6 pm6 cd6 ct6 oc7 kV7 dc7 pm7 cd7 ct7 : Value}
    (a0 : PySem.W.nsIn K mainGlobals "word_bytes" = some (some (.ref f0))) (l0 : K.lookup f0 = some ⟨oc0, od0, .func (PySem.W.fnOf "word_bytes" "word_bytes" (defArgs s_word_bytes) (defBody s_word_bytes) (defScope s_word_bytes) .none kV0 dc0 pm0 an0 cd0 ct0), sl0⟩) (c0 : PySem.W.codeIn K cd0 "word_bytes" = true) (k0 : PySem.W.keepIn K (.ref f0) = true)
    (a1 : PySem.W.nsIn K mainGlobals "bytes_word" = some (some (.ref f1))) (l1 : K.lookup f1 = some ⟨oc1, od1, .func (PySem.W.fnOf "bytes_word" "bytes_word" (defArgs s_bytes_word) (defBody s_bytes_word) (defScope s_bytes_word) .none kV1 dc1 pm1 an1 cd1 ct1), sl1⟩) (c1 : PySem.W.codeIn K cd1 "bytes_word" = true) (k1 : PySem.W.keepIn K (.ref f1) = true)
    (a2 : PySem.W.nsIn K mainGlobals "_law_is_integer" = some (some (.ref f2))) (l2 : K.lookup f2 = some ⟨oc2, od2, .func (PySem.W.fnOf "_law_is_integer" "_law_is_integer" (defArgs s__law_is_integer) (defBody s__law_is_integer) (defScope s__law_is_integer) .none kV2 dc2 pm2 an2 cd2 ct2), sl2⟩) (c2 : PySem.W.codeIn K cd2 "_law_is_integer" = true) (k2 : PySem.W.keepIn K (.ref f2) = true)
    (a3 : PySem.W.nsIn K mainGlobals "_law_cell" = some (some (.ref f3))) (l3 : K.lookup f3 = some ⟨oc3, od3, .func (PySem.W.fnOf "_law_cell" "_law_cell" (defArgs s__law_cell) (defBody s__law_cell) (defScope s__law_cell) .none kV3 dc3 pm3 an3 cd3 ct3), sl3⟩) (c3 : PySem.W.codeIn K cd3 "_law_cell" = true) (k3 : PySem.W.keepIn K (.ref f3) = true)
    (a4 : PySem.W.nsIn K mainGlobals "_law_number" = some (some (.ref f4))) (l4 : K.lookup f4 = some ⟨oc4, od4, .func (PySem.W.fnOf "_law_number" "_law_number" (defArgs s__law_number) (defBody s__law_number) (defScope s__law_number) .none kV4 dc4 pm4 an4 cd4 ct4), sl4⟩) (c4 : PySem.W.codeIn K cd4 "_law_number" = true) (k4 : PySem.W.keepIn K (.ref f4) = true)
    (a5 : PySem.W.nsIn K mainGlobals "_law_bytes" = some (some (.ref f5))) (l5 : K.lookup f5 = some ⟨oc5, od5, .func (PySem.W.fnOf "_law_bytes" "_law_bytes" (defArgs s__law_bytes) (defBody s__law_bytes) (defScope s__law_bytes) .none kV5 dc5 pm5 an5 cd5 ct5), sl5⟩) (c5 : PySem.W.codeIn K cd5 "_law_bytes" = true) (k5 : PySem.W.keepIn K (.ref f5) = true)
    (a6 : PySem.W.nsIn K mainGlobals "_law_written" = some (some (.ref f6))) (l6 : K.lookup f6 = some ⟨oc6, od6, .func (PySem.W.fnOf "_law_written" "_law_written" (defArgs s__law_written) (defBody s__law_written) (defScope s__law_written) .none kV6 dc6 pm6 an6 cd6 ct6), sl6⟩) (c6 : PySem.W.codeIn K cd6 "_law_written" = true) (k6 : PySem.W.keepIn K (.ref f6) = true)
    (a7 : PySem.W.nsIn K mainGlobals "law" = some (some (.ref f7))) (l7 : K.lookup f7 = some ⟨oc7, od7, .func (PySem.W.fnOf "law" "law" (defArgs s_law) (defBody s_law) (defScope s_law) .none kV7 dc7 pm7 an7 cd7 ct7), sl7⟩) (c7 : PySem.W.codeIn K cd7 "law" = true) (k7 : PySem.W.keepIn K (.ref f7) = true)
    (z_bool : PySem.W.nsIn K mainGlobals "bool" = some none)
    (z_int : PySem.W.nsIn K mainGlobals "int" = some none)
    (z_isinstance : PySem.W.nsIn K mainGlobals "isinstance" = some none)
    (z_len : PySem.W.nsIn K mainGlobals "len" = some none)
    (z_list : PySem.W.nsIn K mainGlobals "list" = some none)
    (z_range : PySem.W.nsIn K mainGlobals "range" = some none)
    (z_tuple : PySem.W.nsIn K mainGlobals "tuple" = some none)
    : ∃ fd : FuncData, (∀ (s : Shared) (v : Value), BindsTo s fd ⟨[v], []⟩ [("script", v)]) ∧ ∀ base : Heap, K.In base → base.Ns mainGlobals mg → FnOk l.prog w K mg base CX0 3 fa fd ["script"] (sp_lawK K) := by
  have e := hfa.symm.trans (PySem.W.mg_of X G a7)
  cases e
  have T : Tp w K mg (⟨()⟩ : Cs) := ⟨PySem.W.mg_none_of X G z_bool, PySem.W.mg_none_of X G z_int, PySem.W.mg_none_of X G z_isinstance, PySem.W.mg_none_of X G z_len, PySem.W.mg_none_of X G z_list, PySem.W.mg_none_of X G z_range, PySem.W.mg_none_of X G z_tuple⟩
  have F0 := fun_mk (st := s_word_bytes) l0 c0 k0
  have D_word_bytes : Def K mg "word_bytes" s_word_bytes ["number", "count"] := ⟨_, _, F0, PySem.W.mg_of X G a0, F0.binds (ps := ["number", "count"]) fun _ _ _ _ _ _ us hl => match us, hl with | [_, _], _ => rfl⟩
  have F1 := fun_mk (st := s_bytes_word) l1 c1 k1
  have D_bytes_word : Def K mg "bytes_word" s_bytes_word ["data"] := ⟨_, _, F1, PySem.W.mg_of X G a1, F1.binds (ps := ["data"]) fun _ _ _ _ _ _ us hl => match us, hl with | [_], _ => rfl⟩
  have F2 := fun_mk (st := s__law_is_integer) l2 c2 k2
  have D__law_is_integer : Def K mg "_law_is_integer" s__law_is_integer ["actual"] := ⟨_, _, F2, PySem.W.mg_of X G a2, F2.binds (ps := ["actual"]) fun _ _ _ _ _ _ us hl => match us, hl with | [_], _ => rfl⟩
  have F3 := fun_mk (st := s__law_cell) l3 c3 k3
  have D__law_cell : Def K mg "_law_cell" s__law_cell ["script", "k"] := ⟨_, _, F3, PySem.W.mg_of X G a3, F3.binds (ps := ["script", "k"]) fun _ _ _ _ _ _ us hl => match us, hl with | [_, _], _ => rfl⟩
  have F4 := fun_mk (st := s__law_number) l4 c4 k4
  have D__law_number : Def K mg "_law_number" s__law_number ["data"] := ⟨_, _, F4, PySem.W.mg_of X G a4, F4.binds (ps := ["data"]) fun _ _ _ _ _ _ us hl => match us, hl with | [_], _ => rfl⟩
  have F5 := fun_mk (st := s__law_bytes) l5 c5 k5
  have D__law_bytes : Def K mg "_law_bytes" s__law_bytes ["script"] := ⟨_, _, F5, PySem.W.mg_of X G a5, F5.binds (ps := ["script"]) fun _ _ _ _ _ _ us hl => match us, hl with | [_], _ => rfl⟩
  have F6 := fun_mk (st := s__law_written) l6 c6 k6
  have D__law_written : Def K mg "_law_written" s__law_written ["number", "count"] := ⟨_, _, F6, PySem.W.mg_of X G a6, F6.binds (ps := ["number", "count"]) fun _ _ _ _ _ _ us hl => match us, hl with | [_, _], _ => rfl⟩
  have F7 := fun_mk (st := s_law) l7 c7 k7
  refine ⟨PySem.W.fnOf "law" "law" (defArgs s_law) (defBody s_law) (defScope s_law) .none kV7 dc7 pm7 an7 cd7 ct7, fun s v => .of_eq rfl, fun base _ _ => ?_⟩
  have C__law_cell : Cal l.prog w K mg base CX0 1 "_law_cell" (sp__law_cell K (⟨()⟩ : Cs)) := c__law_cell D__law_cell T 
  have C__law_bytes : Cal l.prog w K mg base CX0 2 "_law_bytes" (sp__law_bytes K (⟨()⟩ : Cs)) := c__law_bytes D__law_bytes T C__law_cell
  have C_bytes_word : Cal l.prog w K mg base CX0 1 "bytes_word" (sp_bytes_word K (⟨()⟩ : Cs)) := c_bytes_word D_bytes_word T 
  have C__law_is_integer : Cal l.prog w K mg base CX0 1 "_law_is_integer" (sp__law_is_integer K (⟨()⟩ : Cs)) := c__law_is_integer D__law_is_integer T 
  have C__law_number : Cal l.prog w K mg base CX0 1 "_law_number" (sp__law_number K (⟨()⟩ : Cs)) := c__law_number D__law_number T 
  have C_word_bytes : Cal l.prog w K mg base CX0 1 "word_bytes" (sp_word_bytes K (⟨()⟩ : Cs)) := c_word_bytes D_word_bytes T 
  have C__law_written : Cal l.prog w K mg base CX0 2 "_law_written" (sp__law_written K (⟨()⟩ : Cs)) := c__law_written D__law_written T C_word_bytes C_bytes_word C__law_is_integer C__law_number
  exact c_law F7 T C__law_cell C__law_bytes C_bytes_word C__law_is_integer C__law_number C__law_written
theorem walk {l : PySem.W.OpenLaw} {q : Program} {loose : List Str} {XP : (Str → Option Value) → Heap → Prop} {YP : World → Heap → Prop} {d : DefRec} {K : Params → PySem.W.Frag} (hn : l.most = some 63) (hdf : d.params.defaults = [])
    (hY : ∀ (w : World) (h : Heap), YP w h → (K w.params).In h)
    (F : ∀ (w : World) (mg : Str → Option Value) (fa : Addr) (h : Heap), (K w.params).In h → h.Ns mainGlobals mg → mg d.name = some (.ref fa) →
      ∃ fd : FuncData, (∀ (s : Shared) (u : Value), BindsTo s fd ⟨[u], []⟩ [("script", u)]) ∧ ∀ base : Heap, (K w.params).In base → base.Ns mainGlobals mg → FnOk l.prog w (K w.params) mg base CX0 3 fa fd ["script"] (sp_lawK (K w.params))) :
    PySem.W.WalkO q loose XP YP l.row.toRowW d [] (fun f vs => PySem.call f vs) :=
  L2.walk_of (n := 63) (k := 3) (x := "script") (CX := fun _ => CX0) (sp := fun w => sp_lawK (K w.params)) hn (by decide) hdf ⟨rfl, by decide, by decide⟩ hY F (fun _ _ a ns hl _ hS => ⟨a, ns, rfl, hS, hl, fun _ => rfl⟩) fun _ _ _ _ _ z => z
end V
open PySem PySem.W PyProof.Rows
set_option maxRecDepth 100000 in
set_option maxHeartbeats 0 in
theorem PySem.Challenge.cw_wasmhost_k02_bytes_of_words_holds : PySem.Challenge.rw_wasmhost_k02_bytes_of_words.Holds := by
  w_on; o_law; k_head; (case hw => w_witness2)
  k_fill
  refine V.walk (l := PySem.Challenge.rw_wasmhost_k02_bytes_of_words) rfl rfl (fun w h Y => PySem.W.kIn_of Y) ?F
  case F =>
    intro w mg fa h KX G hmg
    refine' V.all_mk KX G hmg ?a0 ?l0 ?c0 ?k0 ?a1 ?l1 ?c1 ?k1 ?a2 ?l2 ?c2 ?k2 ?a3 ?l3 ?c3 ?k3 ?a4 ?l4 ?c4 ?k4 ?a5 ?l5 ?c5 ?k5 ?a6 ?l6 ?c6 ?k6 ?a7 ?l7 ?c7 ?k7 ?z_bool ?z_int ?z_isinstance ?z_len ?z_list ?z_range ?z_tuple
    (case a0 => k_is)
    (case l0 => k_is)
    (case c0 => k_is)
    (case k0 => k_is)
    (case a1 => k_is)
    (case l1 => k_is)
    (case c1 => k_is)
    (case k1 => k_is)
    (case a2 => k_is)
    (case l2 => k_is)
    (case c2 => k_is)
    (case k2 => k_is)
    (case a3 => k_is)
    (case l3 => k_is)
    (case c3 => k_is)
    (case k3 => k_is)
    (case a4 => k_is)
    (case l4 => k_is)
    (case c4 => k_is)
    (case k4 => k_is)
    (case a5 => k_is)
    (case l5 => k_is)
    (case c5 => k_is)
    (case k5 => k_is)
    (case a6 => k_is)
    (case l6 => k_is)
    (case c6 => k_is)
    (case k6 => k_is)
    (case a7 => k_is)
    (case l7 => k_is)
    (case c7 => k_is)
    (case k7 => k_is)
    (case z_bool => k_is)
    (case z_int => k_is)
    (case z_isinstance => k_is)
    (case z_len => k_is)
    (case z_list => k_is)
    (case z_range => k_is)
    (case z_tuple => k_is)
#print axioms PySem.Challenge.cw_wasmhost_k02_bytes_of_words_holds


