/-
  What the project's own disk answers, call by call (package disk): all of it.
-/
import Derived.Test.YtnhaidofblfopaaE6
import Derived.Test.YtnhaidofblfopaaH6
import Derived.Test.YtnhaidofblfopaaC6
import Derived.Test.YtnhaidofblfopaaY5
import Derived.Test.YtnhaidofblfopaaA6
