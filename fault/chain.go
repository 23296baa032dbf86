package fault

import "errors"

// tooDeep is far above any chain that may be handed in: only the circle of an error of another package, which wraps itself by and by, comes so far.
const tooDeep = 1 << 20

// ends tells whether the chain of err comes to an end: the library's search would go round a circle for ever.
func ends(err error) bool {
	return Depth(err) < tooDeep
}

// find is the outermost fault of one kind in a chain.
func find[T kind](err error) (T, bool) {
	if !ends(err) {
		var none T
		return none, false
	}
	return ask[T](err)
}

// ask is find in a chain that ends. What an error of another package may do when the library asks it (panic, or claim to be a fault and give none) counts as no fault.
func ask[T kind](err error) (f T, ok bool) {
	var none T
	defer func() {
		if recover() != nil {
			f, ok = none, false
		}
	}()
	if !errors.As(err, &f) || f == none {
		return none, false
	}
	return f, true
}

// next is what err wraps; nothing, if it panics when it is asked.
func next(err error) (wrapped error) {
	defer func() {
		if recover() != nil {
			wrapped = nil
		}
	}()
	return errors.Unwrap(err)
}
