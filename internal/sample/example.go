package sample

// Example is the module of DOC.md, with each declaration on a line of its own.
const Example = `module Main {
  data Nat : Type { Z : Nat; S : Nat -> Nat; };
  data List : Type -> Type deriving (Eq) { Nil : forall a. List a; Cons : forall a. a -> List a -> List a; };
  data Vec : Type -> Nat -> Type { VNil : forall a. Vec a 'Z; VCons : forall a (n : Nat). a -> Vec a n -> Vec a ('S n); };
  newtype Age : Type { Age : Int -> Age; };
  data Point : Type { Point : { px : Int, py : Int } -> Point; };
  family Plus : Nat -> Nat -> Nat { Plus 'Z m = m; Plus ('S n) m = 'S (Plus n m); };
  class Eq (a) { same : a -> a -> Bool; };
  class Eq a => Ord (a) { below : a -> a -> Bool; };
  class Collect (c) (e) | c -> e { insert : e -> c -> c; };
  instance Eq Int { same = eq; };
  instance forall a. Eq a => Collect (List a) a { insert = Cons; };
  infixr 5 ++;
  (++) : forall a. List a -> List a -> List a;
  Nil ++ ys = ys;
  Cons x xs ++ ys = Cons x (xs ++ ys);
  append : forall a (n : Nat) (m : Nat). Vec a n -> Vec a m -> Vec a (Plus n m);
  append VNil ys = ys;
  append (VCons x xs) ys = VCons x (append xs ys);
  head : forall a (n : Nat). Vec a ('S n) -> a;
  head (VCons x _) = x;
  twice : (forall a. a -> a) -> Int;
  twice f | f True = f 1 | True = 0;
  main : IO Unit;
  main = bindIO (returnIO 5) (\x -> put (let { y = add x 1; } in case y of { 6 -> y; _ -> 0; }));
}
`
