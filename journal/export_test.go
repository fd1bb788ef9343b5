package journal

// Starting lets the tests stop a Start between any two of its steps, as a failure does.
var Starting = starting
